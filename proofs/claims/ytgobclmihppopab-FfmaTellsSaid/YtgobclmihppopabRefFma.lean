/- vernierref06.Fma: the exact product and sum, rounded once. -/
import Derived.Test.YtgobclmihppopabRefMul
namespace Go.Proofs.Ytgobclmihppopab
open Go.RowKit Go.Shelf

/-- the product and a sum, rounded once -/
def rfma (a b c : Nat) (mode : Int) : Nat × Nat :=
  if cls a = 3 ∨ cls b = 3 then (9221120237041090560, 0)
  else if cls a = 2 ∧ cls b = 0 ∨ cls a = 0 ∧ cls b = 2 then (9221120237041090560, 1)
  else if cls c = 3 then (9221120237041090560, 0)
  else if cls a = 2 ∨ cls b = 2 then (if cls c = 2 ∧ c ≠ infB (neg6 a != neg6 b) then (9221120237041090560, 1) else (infB (neg6 a != neg6 b), 0))
  else if cls c = 2 then (c, 0)
  else rsum (neg6 a != neg6 b) (sig a * sig b) (xpo a + xpo b) (neg6 c) (sig c) (xpo c) mode
set_option maxRecDepth 100000 in
set_option maxHeartbeats 16000000 in
theorem fma6 {a b c : Nat} {mode : Int} {w : World} (ha : (a : Int) ≤ 18446744073709551615) (hb : (b : Int) ≤ 18446744073709551615) (hc : (c : Int) ≤ 18446744073709551615) :
    Calls Try.prog 19 #[.int .u64 (a : Int), .int .u64 (b : Int), .int .u64 (c : Int), .int .i64 mode] w fun e W' => e = .returned (.tuple #[.int .u64 ((rfma a b c mode).1 : Int), .int .i64 ((rfma a b c mode).2 : Int)]) ∧ Below w.heap.size w W' := by
  obtain ⟨P, hP⟩ : ∃ P, P = rfma a b c mode := ⟨_, rfl⟩
  rw [← hP]
  unfold rfma at hP
  have hA := fun w => class6 (W := w) ha
  have hB := fun w => class6 (W := w) hb
  have hC := fun w => class6 (W := w) hc
  have hx : cls a = 0 ∨ cls a = 1 ∨ cls a = 2 ∨ cls a = 3 := by have := cls_le a; omega
  have hy : cls b = 0 ∨ cls b = 1 ∨ cls b = 2 ∨ cls b = 3 := by have := cls_le b; omega
  have hz : cls c = 0 ∨ cls c = 1 ∨ cls c = 2 ∨ cls c = 3 := by have := cls_le c; omega
  rcases hx with hx | hx | hx | hx
  · rcases hy with hy | hy | hy | hy
    · skip
      rw [hx] at hA
      rw [hy] at hB
      rcases hz with hz | hz | hz | hz
      · skip
        rw [hz] at hC
        rw [hx, hy, hz, if_neg (by decide), if_neg (by decide), if_neg (by decide), if_neg (by decide), if_neg (by decide)] at hP
        have sA := fun w => split6 (W := w) ha
        have sB := fun w => split6 (W := w) hb
        have sC := fun w => split6 (W := w) hc
        have ra := xpo_range06 a
        have rb := xpo_range06 b
        have rc := xpo_range06 c
        have la := sig_lt06 a
        have lb := sig_lt06 b
        have lc := sig_lt06 c
        have hP' : P = rsum (neg6 a != neg6 b) (sig a * sig b) (xpo a + xpo b) (neg6 c) (sig c) (xpo c) mode := hP
        generalize hsa : sig a = ma at *
        generalize hsb : sig b = mb at *
        generalize hsc : sig c = mc at *
        generalize hxa : xpo a = xa at *
        generalize hxb : xpo b = xb at *
        generalize hxc : xpo c = xc at *
        generalize hnc : neg6 c = nc at *
        have HP := Lib.hid hP'
        have HLA := Lib.hid la
        have HLB := Lib.hid lb
        have HLC := Lib.hid lc
        clear hP hP' la lb lc hsa hsb hsc hxa hxb hxc hnc hx hy hz
        go_enter Try.func19, Try.ntmps19
        go_wp2_with fail
        refine (hA _).mono ?_
        rintro e w1 ⟨rfl, rfl⟩
        go_wp2_with fail
        refine (hB _).mono ?_
        rintro e w2 ⟨rfl, rfl⟩
        go_wp2_with fail
        refine (hC _).mono ?_
        rintro e w3 ⟨rfl, rfl⟩
        go_wp2_with fail
        refine (sA _).mono ?_
        rintro e w3 ⟨rfl, rfl⟩
        go_wp2_with fail
        refine (sB _).mono ?_
        rintro e w4 ⟨rfl, rfl⟩
        go_wp2_with fail
        refine (sC _).mono ?_
        rintro e w4 ⟨rfl, rfl⟩
        clear sA sB sC hA hB hC
        go_wp2_with fail
        refine (word6 HLA.out).mono ?_
        rintro e w5 ⟨v5, rfl, r5, b5⟩
        go_wp2_with fail
        refine (word6 HLB.out).mono ?_
        rintro e w6 ⟨v6, rfl, r6, b6⟩
        replace r5 := r5.behind b6
        replace b5 := below_both b5 b6
        clear b6
        go_wp2_with fail
        refine (rmul_num r5 r6 (by omega) (by omega)).mono ?_
        rintro e w7 ⟨v7, rfl, r7, b6⟩
        replace b5 := below_both b5 b6
        clear b6
        go_wp2_with fail
        refine (word6 HLC.out).mono ?_
        rintro e w8 ⟨v8, rfl, r8, b6⟩
        replace r7 := r7.behind b6
        replace b5 := below_both b5 b6
        clear b6
        go_wp2_with fail
        refine (sum6 (mode := mode) r7 r8 (by omega) (by omega) (by omega) (by omega) (by omega) (by omega)).mono ?_
        rintro e w9 ⟨rfl, b6⟩
        have hp := HP.out
        clear HP
        subst hp
        go_wp2
        go_ret2
        exact ⟨rfl, below_both b5 b6⟩
      · skip
        rw [hz] at hC
        rw [hx, hy, hz, if_neg (by decide), if_neg (by decide), if_neg (by decide), if_neg (by decide), if_neg (by decide)] at hP
        have sA := fun w => split6 (W := w) ha
        have sB := fun w => split6 (W := w) hb
        have sC := fun w => split6 (W := w) hc
        have ra := xpo_range06 a
        have rb := xpo_range06 b
        have rc := xpo_range06 c
        have la := sig_lt06 a
        have lb := sig_lt06 b
        have lc := sig_lt06 c
        have hP' : P = rsum (neg6 a != neg6 b) (sig a * sig b) (xpo a + xpo b) (neg6 c) (sig c) (xpo c) mode := hP
        generalize hsa : sig a = ma at *
        generalize hsb : sig b = mb at *
        generalize hsc : sig c = mc at *
        generalize hxa : xpo a = xa at *
        generalize hxb : xpo b = xb at *
        generalize hxc : xpo c = xc at *
        generalize hnc : neg6 c = nc at *
        have HP := Lib.hid hP'
        have HLA := Lib.hid la
        have HLB := Lib.hid lb
        have HLC := Lib.hid lc
        clear hP hP' la lb lc hsa hsb hsc hxa hxb hxc hnc hx hy hz
        go_enter Try.func19, Try.ntmps19
        go_wp2_with fail
        refine (hA _).mono ?_
        rintro e w1 ⟨rfl, rfl⟩
        go_wp2_with fail
        refine (hB _).mono ?_
        rintro e w2 ⟨rfl, rfl⟩
        go_wp2_with fail
        refine (hC _).mono ?_
        rintro e w3 ⟨rfl, rfl⟩
        go_wp2_with fail
        refine (sA _).mono ?_
        rintro e w3 ⟨rfl, rfl⟩
        go_wp2_with fail
        refine (sB _).mono ?_
        rintro e w4 ⟨rfl, rfl⟩
        go_wp2_with fail
        refine (sC _).mono ?_
        rintro e w4 ⟨rfl, rfl⟩
        clear sA sB sC hA hB hC
        go_wp2_with fail
        refine (word6 HLA.out).mono ?_
        rintro e w5 ⟨v5, rfl, r5, b5⟩
        go_wp2_with fail
        refine (word6 HLB.out).mono ?_
        rintro e w6 ⟨v6, rfl, r6, b6⟩
        replace r5 := r5.behind b6
        replace b5 := below_both b5 b6
        clear b6
        go_wp2_with fail
        refine (rmul_num r5 r6 (by omega) (by omega)).mono ?_
        rintro e w7 ⟨v7, rfl, r7, b6⟩
        replace b5 := below_both b5 b6
        clear b6
        go_wp2_with fail
        refine (word6 HLC.out).mono ?_
        rintro e w8 ⟨v8, rfl, r8, b6⟩
        replace r7 := r7.behind b6
        replace b5 := below_both b5 b6
        clear b6
        go_wp2_with fail
        refine (sum6 (mode := mode) r7 r8 (by omega) (by omega) (by omega) (by omega) (by omega) (by omega)).mono ?_
        rintro e w9 ⟨rfl, b6⟩
        have hp := HP.out
        clear HP
        subst hp
        go_wp2
        go_ret2
        exact ⟨rfl, below_both b5 b6⟩
      · skip
        rw [hz] at hC
        rw [hx, hy, hz, if_neg (by decide), if_neg (by decide), if_neg (by decide), if_neg (by decide), if_pos (by decide)] at hP
        subst hP
        clear hx hy hz
        go_enter Try.func19, Try.ntmps19
        go_wp2_with fail
        refine (hA _).mono ?_
        rintro e w1 ⟨rfl, rfl⟩
        go_wp2_with fail
        refine (hB _).mono ?_
        rintro e w2 ⟨rfl, rfl⟩
        go_wp2_with fail
        refine (hC _).mono ?_
        rintro e w3 ⟨rfl, rfl⟩
        go_wp2
        go_ret2
        exact ⟨rfl, Below.refl _ _⟩
      · skip
        rw [hz] at hC
        rw [hx, hy, hz, if_neg (by decide), if_neg (by decide), if_pos (by decide)] at hP
        subst hP
        clear hx hy hz
        go_enter Try.func19, Try.ntmps19
        go_wp2_with fail
        refine (hA _).mono ?_
        rintro e w1 ⟨rfl, rfl⟩
        go_wp2_with fail
        refine (hB _).mono ?_
        rintro e w2 ⟨rfl, rfl⟩
        go_wp2_with fail
        refine (hC _).mono ?_
        rintro e w3 ⟨rfl, rfl⟩
        go_wp2
        go_ret2
        exact ⟨rfl, Below.refl _ _⟩
    · skip
      rw [hx] at hA
      rw [hy] at hB
      rcases hz with hz | hz | hz | hz
      · skip
        rw [hz] at hC
        rw [hx, hy, hz, if_neg (by decide), if_neg (by decide), if_neg (by decide), if_neg (by decide), if_neg (by decide)] at hP
        have sA := fun w => split6 (W := w) ha
        have sB := fun w => split6 (W := w) hb
        have sC := fun w => split6 (W := w) hc
        have ra := xpo_range06 a
        have rb := xpo_range06 b
        have rc := xpo_range06 c
        have la := sig_lt06 a
        have lb := sig_lt06 b
        have lc := sig_lt06 c
        have hP' : P = rsum (neg6 a != neg6 b) (sig a * sig b) (xpo a + xpo b) (neg6 c) (sig c) (xpo c) mode := hP
        generalize hsa : sig a = ma at *
        generalize hsb : sig b = mb at *
        generalize hsc : sig c = mc at *
        generalize hxa : xpo a = xa at *
        generalize hxb : xpo b = xb at *
        generalize hxc : xpo c = xc at *
        generalize hnc : neg6 c = nc at *
        have HP := Lib.hid hP'
        have HLA := Lib.hid la
        have HLB := Lib.hid lb
        have HLC := Lib.hid lc
        clear hP hP' la lb lc hsa hsb hsc hxa hxb hxc hnc hx hy hz
        go_enter Try.func19, Try.ntmps19
        go_wp2_with fail
        refine (hA _).mono ?_
        rintro e w1 ⟨rfl, rfl⟩
        go_wp2_with fail
        refine (hB _).mono ?_
        rintro e w2 ⟨rfl, rfl⟩
        go_wp2_with fail
        refine (hC _).mono ?_
        rintro e w3 ⟨rfl, rfl⟩
        go_wp2_with fail
        refine (sA _).mono ?_
        rintro e w3 ⟨rfl, rfl⟩
        go_wp2_with fail
        refine (sB _).mono ?_
        rintro e w4 ⟨rfl, rfl⟩
        go_wp2_with fail
        refine (sC _).mono ?_
        rintro e w4 ⟨rfl, rfl⟩
        clear sA sB sC hA hB hC
        go_wp2_with fail
        refine (word6 HLA.out).mono ?_
        rintro e w5 ⟨v5, rfl, r5, b5⟩
        go_wp2_with fail
        refine (word6 HLB.out).mono ?_
        rintro e w6 ⟨v6, rfl, r6, b6⟩
        replace r5 := r5.behind b6
        replace b5 := below_both b5 b6
        clear b6
        go_wp2_with fail
        refine (rmul_num r5 r6 (by omega) (by omega)).mono ?_
        rintro e w7 ⟨v7, rfl, r7, b6⟩
        replace b5 := below_both b5 b6
        clear b6
        go_wp2_with fail
        refine (word6 HLC.out).mono ?_
        rintro e w8 ⟨v8, rfl, r8, b6⟩
        replace r7 := r7.behind b6
        replace b5 := below_both b5 b6
        clear b6
        go_wp2_with fail
        refine (sum6 (mode := mode) r7 r8 (by omega) (by omega) (by omega) (by omega) (by omega) (by omega)).mono ?_
        rintro e w9 ⟨rfl, b6⟩
        have hp := HP.out
        clear HP
        subst hp
        go_wp2
        go_ret2
        exact ⟨rfl, below_both b5 b6⟩
      · skip
        rw [hz] at hC
        rw [hx, hy, hz, if_neg (by decide), if_neg (by decide), if_neg (by decide), if_neg (by decide), if_neg (by decide)] at hP
        have sA := fun w => split6 (W := w) ha
        have sB := fun w => split6 (W := w) hb
        have sC := fun w => split6 (W := w) hc
        have ra := xpo_range06 a
        have rb := xpo_range06 b
        have rc := xpo_range06 c
        have la := sig_lt06 a
        have lb := sig_lt06 b
        have lc := sig_lt06 c
        have hP' : P = rsum (neg6 a != neg6 b) (sig a * sig b) (xpo a + xpo b) (neg6 c) (sig c) (xpo c) mode := hP
        generalize hsa : sig a = ma at *
        generalize hsb : sig b = mb at *
        generalize hsc : sig c = mc at *
        generalize hxa : xpo a = xa at *
        generalize hxb : xpo b = xb at *
        generalize hxc : xpo c = xc at *
        generalize hnc : neg6 c = nc at *
        have HP := Lib.hid hP'
        have HLA := Lib.hid la
        have HLB := Lib.hid lb
        have HLC := Lib.hid lc
        clear hP hP' la lb lc hsa hsb hsc hxa hxb hxc hnc hx hy hz
        go_enter Try.func19, Try.ntmps19
        go_wp2_with fail
        refine (hA _).mono ?_
        rintro e w1 ⟨rfl, rfl⟩
        go_wp2_with fail
        refine (hB _).mono ?_
        rintro e w2 ⟨rfl, rfl⟩
        go_wp2_with fail
        refine (hC _).mono ?_
        rintro e w3 ⟨rfl, rfl⟩
        go_wp2_with fail
        refine (sA _).mono ?_
        rintro e w3 ⟨rfl, rfl⟩
        go_wp2_with fail
        refine (sB _).mono ?_
        rintro e w4 ⟨rfl, rfl⟩
        go_wp2_with fail
        refine (sC _).mono ?_
        rintro e w4 ⟨rfl, rfl⟩
        clear sA sB sC hA hB hC
        go_wp2_with fail
        refine (word6 HLA.out).mono ?_
        rintro e w5 ⟨v5, rfl, r5, b5⟩
        go_wp2_with fail
        refine (word6 HLB.out).mono ?_
        rintro e w6 ⟨v6, rfl, r6, b6⟩
        replace r5 := r5.behind b6
        replace b5 := below_both b5 b6
        clear b6
        go_wp2_with fail
        refine (rmul_num r5 r6 (by omega) (by omega)).mono ?_
        rintro e w7 ⟨v7, rfl, r7, b6⟩
        replace b5 := below_both b5 b6
        clear b6
        go_wp2_with fail
        refine (word6 HLC.out).mono ?_
        rintro e w8 ⟨v8, rfl, r8, b6⟩
        replace r7 := r7.behind b6
        replace b5 := below_both b5 b6
        clear b6
        go_wp2_with fail
        refine (sum6 (mode := mode) r7 r8 (by omega) (by omega) (by omega) (by omega) (by omega) (by omega)).mono ?_
        rintro e w9 ⟨rfl, b6⟩
        have hp := HP.out
        clear HP
        subst hp
        go_wp2
        go_ret2
        exact ⟨rfl, below_both b5 b6⟩
      · skip
        rw [hz] at hC
        rw [hx, hy, hz, if_neg (by decide), if_neg (by decide), if_neg (by decide), if_neg (by decide), if_pos (by decide)] at hP
        subst hP
        clear hx hy hz
        go_enter Try.func19, Try.ntmps19
        go_wp2_with fail
        refine (hA _).mono ?_
        rintro e w1 ⟨rfl, rfl⟩
        go_wp2_with fail
        refine (hB _).mono ?_
        rintro e w2 ⟨rfl, rfl⟩
        go_wp2_with fail
        refine (hC _).mono ?_
        rintro e w3 ⟨rfl, rfl⟩
        go_wp2
        go_ret2
        exact ⟨rfl, Below.refl _ _⟩
      · skip
        rw [hz] at hC
        rw [hx, hy, hz, if_neg (by decide), if_neg (by decide), if_pos (by decide)] at hP
        subst hP
        clear hx hy hz
        go_enter Try.func19, Try.ntmps19
        go_wp2_with fail
        refine (hA _).mono ?_
        rintro e w1 ⟨rfl, rfl⟩
        go_wp2_with fail
        refine (hB _).mono ?_
        rintro e w2 ⟨rfl, rfl⟩
        go_wp2_with fail
        refine (hC _).mono ?_
        rintro e w3 ⟨rfl, rfl⟩
        go_wp2
        go_ret2
        exact ⟨rfl, Below.refl _ _⟩
    · skip
      rw [hx] at hA
      rw [hy] at hB
      rw [hx, hy, if_neg (by decide), if_pos (by decide)] at hP
      subst hP
      generalize cls c = z at *
      clear hx hy hz
      go_enter Try.func19, Try.ntmps19
      go_wp2_with fail
      refine (hA _).mono ?_
      rintro e w1 ⟨rfl, rfl⟩
      go_wp2_with fail
      refine (hB _).mono ?_
      rintro e w2 ⟨rfl, rfl⟩
      go_wp2_with fail
      refine (hC _).mono ?_
      rintro e w3 ⟨rfl, rfl⟩
      go_wp2
      go_ret2
      exact ⟨rfl, Below.refl _ _⟩
    · skip
      rw [hx] at hA
      rw [hy] at hB
      rw [hx, hy, if_pos (by decide)] at hP
      subst hP
      generalize cls c = z at *
      clear hx hy hz
      go_enter Try.func19, Try.ntmps19
      go_wp2_with fail
      refine (hA _).mono ?_
      rintro e w1 ⟨rfl, rfl⟩
      go_wp2_with fail
      refine (hB _).mono ?_
      rintro e w2 ⟨rfl, rfl⟩
      go_wp2_with fail
      refine (hC _).mono ?_
      rintro e w3 ⟨rfl, rfl⟩
      go_wp2
      go_ret2
      exact ⟨rfl, Below.refl _ _⟩
  · rcases hy with hy | hy | hy | hy
    · skip
      rw [hx] at hA
      rw [hy] at hB
      rcases hz with hz | hz | hz | hz
      · skip
        rw [hz] at hC
        rw [hx, hy, hz, if_neg (by decide), if_neg (by decide), if_neg (by decide), if_neg (by decide), if_neg (by decide)] at hP
        have sA := fun w => split6 (W := w) ha
        have sB := fun w => split6 (W := w) hb
        have sC := fun w => split6 (W := w) hc
        have ra := xpo_range06 a
        have rb := xpo_range06 b
        have rc := xpo_range06 c
        have la := sig_lt06 a
        have lb := sig_lt06 b
        have lc := sig_lt06 c
        have hP' : P = rsum (neg6 a != neg6 b) (sig a * sig b) (xpo a + xpo b) (neg6 c) (sig c) (xpo c) mode := hP
        generalize hsa : sig a = ma at *
        generalize hsb : sig b = mb at *
        generalize hsc : sig c = mc at *
        generalize hxa : xpo a = xa at *
        generalize hxb : xpo b = xb at *
        generalize hxc : xpo c = xc at *
        generalize hnc : neg6 c = nc at *
        have HP := Lib.hid hP'
        have HLA := Lib.hid la
        have HLB := Lib.hid lb
        have HLC := Lib.hid lc
        clear hP hP' la lb lc hsa hsb hsc hxa hxb hxc hnc hx hy hz
        go_enter Try.func19, Try.ntmps19
        go_wp2_with fail
        refine (hA _).mono ?_
        rintro e w1 ⟨rfl, rfl⟩
        go_wp2_with fail
        refine (hB _).mono ?_
        rintro e w2 ⟨rfl, rfl⟩
        go_wp2_with fail
        refine (hC _).mono ?_
        rintro e w3 ⟨rfl, rfl⟩
        go_wp2_with fail
        refine (sA _).mono ?_
        rintro e w3 ⟨rfl, rfl⟩
        go_wp2_with fail
        refine (sB _).mono ?_
        rintro e w4 ⟨rfl, rfl⟩
        go_wp2_with fail
        refine (sC _).mono ?_
        rintro e w4 ⟨rfl, rfl⟩
        clear sA sB sC hA hB hC
        go_wp2_with fail
        refine (word6 HLA.out).mono ?_
        rintro e w5 ⟨v5, rfl, r5, b5⟩
        go_wp2_with fail
        refine (word6 HLB.out).mono ?_
        rintro e w6 ⟨v6, rfl, r6, b6⟩
        replace r5 := r5.behind b6
        replace b5 := below_both b5 b6
        clear b6
        go_wp2_with fail
        refine (rmul_num r5 r6 (by omega) (by omega)).mono ?_
        rintro e w7 ⟨v7, rfl, r7, b6⟩
        replace b5 := below_both b5 b6
        clear b6
        go_wp2_with fail
        refine (word6 HLC.out).mono ?_
        rintro e w8 ⟨v8, rfl, r8, b6⟩
        replace r7 := r7.behind b6
        replace b5 := below_both b5 b6
        clear b6
        go_wp2_with fail
        refine (sum6 (mode := mode) r7 r8 (by omega) (by omega) (by omega) (by omega) (by omega) (by omega)).mono ?_
        rintro e w9 ⟨rfl, b6⟩
        have hp := HP.out
        clear HP
        subst hp
        go_wp2
        go_ret2
        exact ⟨rfl, below_both b5 b6⟩
      · skip
        rw [hz] at hC
        rw [hx, hy, hz, if_neg (by decide), if_neg (by decide), if_neg (by decide), if_neg (by decide), if_neg (by decide)] at hP
        have sA := fun w => split6 (W := w) ha
        have sB := fun w => split6 (W := w) hb
        have sC := fun w => split6 (W := w) hc
        have ra := xpo_range06 a
        have rb := xpo_range06 b
        have rc := xpo_range06 c
        have la := sig_lt06 a
        have lb := sig_lt06 b
        have lc := sig_lt06 c
        have hP' : P = rsum (neg6 a != neg6 b) (sig a * sig b) (xpo a + xpo b) (neg6 c) (sig c) (xpo c) mode := hP
        generalize hsa : sig a = ma at *
        generalize hsb : sig b = mb at *
        generalize hsc : sig c = mc at *
        generalize hxa : xpo a = xa at *
        generalize hxb : xpo b = xb at *
        generalize hxc : xpo c = xc at *
        generalize hnc : neg6 c = nc at *
        have HP := Lib.hid hP'
        have HLA := Lib.hid la
        have HLB := Lib.hid lb
        have HLC := Lib.hid lc
        clear hP hP' la lb lc hsa hsb hsc hxa hxb hxc hnc hx hy hz
        go_enter Try.func19, Try.ntmps19
        go_wp2_with fail
        refine (hA _).mono ?_
        rintro e w1 ⟨rfl, rfl⟩
        go_wp2_with fail
        refine (hB _).mono ?_
        rintro e w2 ⟨rfl, rfl⟩
        go_wp2_with fail
        refine (hC _).mono ?_
        rintro e w3 ⟨rfl, rfl⟩
        go_wp2_with fail
        refine (sA _).mono ?_
        rintro e w3 ⟨rfl, rfl⟩
        go_wp2_with fail
        refine (sB _).mono ?_
        rintro e w4 ⟨rfl, rfl⟩
        go_wp2_with fail
        refine (sC _).mono ?_
        rintro e w4 ⟨rfl, rfl⟩
        clear sA sB sC hA hB hC
        go_wp2_with fail
        refine (word6 HLA.out).mono ?_
        rintro e w5 ⟨v5, rfl, r5, b5⟩
        go_wp2_with fail
        refine (word6 HLB.out).mono ?_
        rintro e w6 ⟨v6, rfl, r6, b6⟩
        replace r5 := r5.behind b6
        replace b5 := below_both b5 b6
        clear b6
        go_wp2_with fail
        refine (rmul_num r5 r6 (by omega) (by omega)).mono ?_
        rintro e w7 ⟨v7, rfl, r7, b6⟩
        replace b5 := below_both b5 b6
        clear b6
        go_wp2_with fail
        refine (word6 HLC.out).mono ?_
        rintro e w8 ⟨v8, rfl, r8, b6⟩
        replace r7 := r7.behind b6
        replace b5 := below_both b5 b6
        clear b6
        go_wp2_with fail
        refine (sum6 (mode := mode) r7 r8 (by omega) (by omega) (by omega) (by omega) (by omega) (by omega)).mono ?_
        rintro e w9 ⟨rfl, b6⟩
        have hp := HP.out
        clear HP
        subst hp
        go_wp2
        go_ret2
        exact ⟨rfl, below_both b5 b6⟩
      · skip
        rw [hz] at hC
        rw [hx, hy, hz, if_neg (by decide), if_neg (by decide), if_neg (by decide), if_neg (by decide), if_pos (by decide)] at hP
        subst hP
        clear hx hy hz
        go_enter Try.func19, Try.ntmps19
        go_wp2_with fail
        refine (hA _).mono ?_
        rintro e w1 ⟨rfl, rfl⟩
        go_wp2_with fail
        refine (hB _).mono ?_
        rintro e w2 ⟨rfl, rfl⟩
        go_wp2_with fail
        refine (hC _).mono ?_
        rintro e w3 ⟨rfl, rfl⟩
        go_wp2
        go_ret2
        exact ⟨rfl, Below.refl _ _⟩
      · skip
        rw [hz] at hC
        rw [hx, hy, hz, if_neg (by decide), if_neg (by decide), if_pos (by decide)] at hP
        subst hP
        clear hx hy hz
        go_enter Try.func19, Try.ntmps19
        go_wp2_with fail
        refine (hA _).mono ?_
        rintro e w1 ⟨rfl, rfl⟩
        go_wp2_with fail
        refine (hB _).mono ?_
        rintro e w2 ⟨rfl, rfl⟩
        go_wp2_with fail
        refine (hC _).mono ?_
        rintro e w3 ⟨rfl, rfl⟩
        go_wp2
        go_ret2
        exact ⟨rfl, Below.refl _ _⟩
    · skip
      rw [hx] at hA
      rw [hy] at hB
      rcases hz with hz | hz | hz | hz
      · skip
        rw [hz] at hC
        rw [hx, hy, hz, if_neg (by decide), if_neg (by decide), if_neg (by decide), if_neg (by decide), if_neg (by decide)] at hP
        have sA := fun w => split6 (W := w) ha
        have sB := fun w => split6 (W := w) hb
        have sC := fun w => split6 (W := w) hc
        have ra := xpo_range06 a
        have rb := xpo_range06 b
        have rc := xpo_range06 c
        have la := sig_lt06 a
        have lb := sig_lt06 b
        have lc := sig_lt06 c
        have hP' : P = rsum (neg6 a != neg6 b) (sig a * sig b) (xpo a + xpo b) (neg6 c) (sig c) (xpo c) mode := hP
        generalize hsa : sig a = ma at *
        generalize hsb : sig b = mb at *
        generalize hsc : sig c = mc at *
        generalize hxa : xpo a = xa at *
        generalize hxb : xpo b = xb at *
        generalize hxc : xpo c = xc at *
        generalize hnc : neg6 c = nc at *
        have HP := Lib.hid hP'
        have HLA := Lib.hid la
        have HLB := Lib.hid lb
        have HLC := Lib.hid lc
        clear hP hP' la lb lc hsa hsb hsc hxa hxb hxc hnc hx hy hz
        go_enter Try.func19, Try.ntmps19
        go_wp2_with fail
        refine (hA _).mono ?_
        rintro e w1 ⟨rfl, rfl⟩
        go_wp2_with fail
        refine (hB _).mono ?_
        rintro e w2 ⟨rfl, rfl⟩
        go_wp2_with fail
        refine (hC _).mono ?_
        rintro e w3 ⟨rfl, rfl⟩
        go_wp2_with fail
        refine (sA _).mono ?_
        rintro e w3 ⟨rfl, rfl⟩
        go_wp2_with fail
        refine (sB _).mono ?_
        rintro e w4 ⟨rfl, rfl⟩
        go_wp2_with fail
        refine (sC _).mono ?_
        rintro e w4 ⟨rfl, rfl⟩
        clear sA sB sC hA hB hC
        go_wp2_with fail
        refine (word6 HLA.out).mono ?_
        rintro e w5 ⟨v5, rfl, r5, b5⟩
        go_wp2_with fail
        refine (word6 HLB.out).mono ?_
        rintro e w6 ⟨v6, rfl, r6, b6⟩
        replace r5 := r5.behind b6
        replace b5 := below_both b5 b6
        clear b6
        go_wp2_with fail
        refine (rmul_num r5 r6 (by omega) (by omega)).mono ?_
        rintro e w7 ⟨v7, rfl, r7, b6⟩
        replace b5 := below_both b5 b6
        clear b6
        go_wp2_with fail
        refine (word6 HLC.out).mono ?_
        rintro e w8 ⟨v8, rfl, r8, b6⟩
        replace r7 := r7.behind b6
        replace b5 := below_both b5 b6
        clear b6
        go_wp2_with fail
        refine (sum6 (mode := mode) r7 r8 (by omega) (by omega) (by omega) (by omega) (by omega) (by omega)).mono ?_
        rintro e w9 ⟨rfl, b6⟩
        have hp := HP.out
        clear HP
        subst hp
        go_wp2
        go_ret2
        exact ⟨rfl, below_both b5 b6⟩
      · skip
        rw [hz] at hC
        rw [hx, hy, hz, if_neg (by decide), if_neg (by decide), if_neg (by decide), if_neg (by decide), if_neg (by decide)] at hP
        have sA := fun w => split6 (W := w) ha
        have sB := fun w => split6 (W := w) hb
        have sC := fun w => split6 (W := w) hc
        have ra := xpo_range06 a
        have rb := xpo_range06 b
        have rc := xpo_range06 c
        have la := sig_lt06 a
        have lb := sig_lt06 b
        have lc := sig_lt06 c
        have hP' : P = rsum (neg6 a != neg6 b) (sig a * sig b) (xpo a + xpo b) (neg6 c) (sig c) (xpo c) mode := hP
        generalize hsa : sig a = ma at *
        generalize hsb : sig b = mb at *
        generalize hsc : sig c = mc at *
        generalize hxa : xpo a = xa at *
        generalize hxb : xpo b = xb at *
        generalize hxc : xpo c = xc at *
        generalize hnc : neg6 c = nc at *
        have HP := Lib.hid hP'
        have HLA := Lib.hid la
        have HLB := Lib.hid lb
        have HLC := Lib.hid lc
        clear hP hP' la lb lc hsa hsb hsc hxa hxb hxc hnc hx hy hz
        go_enter Try.func19, Try.ntmps19
        go_wp2_with fail
        refine (hA _).mono ?_
        rintro e w1 ⟨rfl, rfl⟩
        go_wp2_with fail
        refine (hB _).mono ?_
        rintro e w2 ⟨rfl, rfl⟩
        go_wp2_with fail
        refine (hC _).mono ?_
        rintro e w3 ⟨rfl, rfl⟩
        go_wp2_with fail
        refine (sA _).mono ?_
        rintro e w3 ⟨rfl, rfl⟩
        go_wp2_with fail
        refine (sB _).mono ?_
        rintro e w4 ⟨rfl, rfl⟩
        go_wp2_with fail
        refine (sC _).mono ?_
        rintro e w4 ⟨rfl, rfl⟩
        clear sA sB sC hA hB hC
        go_wp2_with fail
        refine (word6 HLA.out).mono ?_
        rintro e w5 ⟨v5, rfl, r5, b5⟩
        go_wp2_with fail
        refine (word6 HLB.out).mono ?_
        rintro e w6 ⟨v6, rfl, r6, b6⟩
        replace r5 := r5.behind b6
        replace b5 := below_both b5 b6
        clear b6
        go_wp2_with fail
        refine (rmul_num r5 r6 (by omega) (by omega)).mono ?_
        rintro e w7 ⟨v7, rfl, r7, b6⟩
        replace b5 := below_both b5 b6
        clear b6
        go_wp2_with fail
        refine (word6 HLC.out).mono ?_
        rintro e w8 ⟨v8, rfl, r8, b6⟩
        replace r7 := r7.behind b6
        replace b5 := below_both b5 b6
        clear b6
        go_wp2_with fail
        refine (sum6 (mode := mode) r7 r8 (by omega) (by omega) (by omega) (by omega) (by omega) (by omega)).mono ?_
        rintro e w9 ⟨rfl, b6⟩
        have hp := HP.out
        clear HP
        subst hp
        go_wp2
        go_ret2
        exact ⟨rfl, below_both b5 b6⟩
      · skip
        rw [hz] at hC
        rw [hx, hy, hz, if_neg (by decide), if_neg (by decide), if_neg (by decide), if_neg (by decide), if_pos (by decide)] at hP
        subst hP
        clear hx hy hz
        go_enter Try.func19, Try.ntmps19
        go_wp2_with fail
        refine (hA _).mono ?_
        rintro e w1 ⟨rfl, rfl⟩
        go_wp2_with fail
        refine (hB _).mono ?_
        rintro e w2 ⟨rfl, rfl⟩
        go_wp2_with fail
        refine (hC _).mono ?_
        rintro e w3 ⟨rfl, rfl⟩
        go_wp2
        go_ret2
        exact ⟨rfl, Below.refl _ _⟩
      · skip
        rw [hz] at hC
        rw [hx, hy, hz, if_neg (by decide), if_neg (by decide), if_pos (by decide)] at hP
        subst hP
        clear hx hy hz
        go_enter Try.func19, Try.ntmps19
        go_wp2_with fail
        refine (hA _).mono ?_
        rintro e w1 ⟨rfl, rfl⟩
        go_wp2_with fail
        refine (hB _).mono ?_
        rintro e w2 ⟨rfl, rfl⟩
        go_wp2_with fail
        refine (hC _).mono ?_
        rintro e w3 ⟨rfl, rfl⟩
        go_wp2
        go_ret2
        exact ⟨rfl, Below.refl _ _⟩
    · skip
      rw [hx] at hA
      rw [hy] at hB
      rcases hz with hz | hz | hz | hz
      · skip
        rw [hz] at hC
        rw [hx, hy, hz, if_neg (by decide), if_neg (by decide), if_neg (by decide), if_pos (by decide), if_neg (fun h => absurd h.1 (by decide))] at hP
        have HP := Lib.hid hP
        clear hP hx hy hz
        go_enter Try.func19, Try.ntmps19
        go_wp2_with fail
        refine (hA _).mono ?_
        rintro e w1 ⟨rfl, rfl⟩
        go_wp2_with fail
        refine (hB _).mono ?_
        rintro e w2 ⟨rfl, rfl⟩
        go_wp2_with fail
        refine (hC _).mono ?_
        rintro e w3 ⟨rfl, rfl⟩
        go_wp2_with fail
        refine (inf6 _ _).mono ?_
        rintro e w4 ⟨rfl, rfl⟩
        have hp := HP.out
        subst hp
        go_wp2
        go_ret2
        exact ⟨rfl, Below.refl _ _⟩
      · skip
        rw [hz] at hC
        rw [hx, hy, hz, if_neg (by decide), if_neg (by decide), if_neg (by decide), if_pos (by decide), if_neg (fun h => absurd h.1 (by decide))] at hP
        have HP := Lib.hid hP
        clear hP hx hy hz
        go_enter Try.func19, Try.ntmps19
        go_wp2_with fail
        refine (hA _).mono ?_
        rintro e w1 ⟨rfl, rfl⟩
        go_wp2_with fail
        refine (hB _).mono ?_
        rintro e w2 ⟨rfl, rfl⟩
        go_wp2_with fail
        refine (hC _).mono ?_
        rintro e w3 ⟨rfl, rfl⟩
        go_wp2_with fail
        refine (inf6 _ _).mono ?_
        rintro e w4 ⟨rfl, rfl⟩
        have hp := HP.out
        subst hp
        go_wp2
        go_ret2
        exact ⟨rfl, Below.refl _ _⟩
      · skip
        rw [hz] at hC
        simp only [hx, hy, hz, reduceIte, true_or, or_true, or_self, true_and, and_true, and_self, and_false, false_and, or_false, false_or, show ¬ (1 : Nat) = 0 from by decide, show ¬ (1 : Nat) = 2 from by decide, show ¬ (1 : Nat) = 3 from by decide, show ¬ (2 : Nat) = 0 from by decide, show ¬ (2 : Nat) = 3 from by decide] at hP
        by_cases hI : c = infB (neg6 a != neg6 b)
        · rw [if_neg (fun h => h hI)] at hP
          have HP := Lib.hid hP
          have HI : Hid ((c : Int) = (infB (neg6 a != neg6 b) : Int)) := Lib.hid (by rw [← hI])
          have hin := fun w => inf6 (neg6 a != neg6 b) w
          generalize infB (neg6 a != neg6 b) = I at *
          clear hP hI hx hy hz
          go_enter Try.func19, Try.ntmps19
          go_wp2_with fail
          refine (hA _).mono ?_
          rintro e w1 ⟨rfl, rfl⟩
          go_wp2_with fail
          refine (hB _).mono ?_
          rintro e w2 ⟨rfl, rfl⟩
          go_wp2_with fail
          refine (hC _).mono ?_
          rintro e w3 ⟨rfl, rfl⟩
          go_wp2_with fail
          refine (hin _).mono ?_
          rintro e w4 ⟨rfl, rfl⟩
          rw [HI.out]
          go_wp2_with fail
          refine (hin _).mono ?_
          rintro e w5 ⟨rfl, rfl⟩
          have hp := HP.out
          subst hp
          go_wp2
          go_ret2
          exact ⟨rfl, Below.refl _ _⟩
        · rw [if_pos hI] at hP
          have hne : ¬ (c : Int) = (infB (neg6 a != neg6 b) : Int) := by omega
          subst hP
          clear hI hx hy hz
          go_enter Try.func19, Try.ntmps19
          go_wp2_with fail
          refine (hA _).mono ?_
          rintro e w1 ⟨rfl, rfl⟩
          go_wp2_with fail
          refine (hB _).mono ?_
          rintro e w2 ⟨rfl, rfl⟩
          go_wp2_with fail
          refine (hC _).mono ?_
          rintro e w3 ⟨rfl, rfl⟩
          go_wp2_with fail
          refine (inf6 (neg6 a != neg6 b) _).mono ?_
          rintro e w4 ⟨rfl, rfl⟩
          generalize infB (neg6 a != neg6 b) = I at *
          go_wp2
          go_ret2
          exact ⟨rfl, Below.refl _ _⟩
      · skip
        rw [hz] at hC
        rw [hx, hy, hz, if_neg (by decide), if_neg (by decide), if_pos (by decide)] at hP
        subst hP
        clear hx hy hz
        go_enter Try.func19, Try.ntmps19
        go_wp2_with fail
        refine (hA _).mono ?_
        rintro e w1 ⟨rfl, rfl⟩
        go_wp2_with fail
        refine (hB _).mono ?_
        rintro e w2 ⟨rfl, rfl⟩
        go_wp2_with fail
        refine (hC _).mono ?_
        rintro e w3 ⟨rfl, rfl⟩
        go_wp2
        go_ret2
        exact ⟨rfl, Below.refl _ _⟩
    · skip
      rw [hx] at hA
      rw [hy] at hB
      rw [hx, hy, if_pos (by decide)] at hP
      subst hP
      generalize cls c = z at *
      clear hx hy hz
      go_enter Try.func19, Try.ntmps19
      go_wp2_with fail
      refine (hA _).mono ?_
      rintro e w1 ⟨rfl, rfl⟩
      go_wp2_with fail
      refine (hB _).mono ?_
      rintro e w2 ⟨rfl, rfl⟩
      go_wp2_with fail
      refine (hC _).mono ?_
      rintro e w3 ⟨rfl, rfl⟩
      go_wp2
      go_ret2
      exact ⟨rfl, Below.refl _ _⟩
  · rcases hy with hy | hy | hy | hy
    · skip
      rw [hx] at hA
      rw [hy] at hB
      rw [hx, hy, if_neg (by decide), if_pos (by decide)] at hP
      subst hP
      generalize cls c = z at *
      clear hx hy hz
      go_enter Try.func19, Try.ntmps19
      go_wp2_with fail
      refine (hA _).mono ?_
      rintro e w1 ⟨rfl, rfl⟩
      go_wp2_with fail
      refine (hB _).mono ?_
      rintro e w2 ⟨rfl, rfl⟩
      go_wp2_with fail
      refine (hC _).mono ?_
      rintro e w3 ⟨rfl, rfl⟩
      go_wp2
      go_ret2
      exact ⟨rfl, Below.refl _ _⟩
    · skip
      rw [hx] at hA
      rw [hy] at hB
      rcases hz with hz | hz | hz | hz
      · skip
        rw [hz] at hC
        rw [hx, hy, hz, if_neg (by decide), if_neg (by decide), if_neg (by decide), if_pos (by decide), if_neg (fun h => absurd h.1 (by decide))] at hP
        have HP := Lib.hid hP
        clear hP hx hy hz
        go_enter Try.func19, Try.ntmps19
        go_wp2_with fail
        refine (hA _).mono ?_
        rintro e w1 ⟨rfl, rfl⟩
        go_wp2_with fail
        refine (hB _).mono ?_
        rintro e w2 ⟨rfl, rfl⟩
        go_wp2_with fail
        refine (hC _).mono ?_
        rintro e w3 ⟨rfl, rfl⟩
        go_wp2_with fail
        refine (inf6 _ _).mono ?_
        rintro e w4 ⟨rfl, rfl⟩
        have hp := HP.out
        subst hp
        go_wp2
        go_ret2
        exact ⟨rfl, Below.refl _ _⟩
      · skip
        rw [hz] at hC
        rw [hx, hy, hz, if_neg (by decide), if_neg (by decide), if_neg (by decide), if_pos (by decide), if_neg (fun h => absurd h.1 (by decide))] at hP
        have HP := Lib.hid hP
        clear hP hx hy hz
        go_enter Try.func19, Try.ntmps19
        go_wp2_with fail
        refine (hA _).mono ?_
        rintro e w1 ⟨rfl, rfl⟩
        go_wp2_with fail
        refine (hB _).mono ?_
        rintro e w2 ⟨rfl, rfl⟩
        go_wp2_with fail
        refine (hC _).mono ?_
        rintro e w3 ⟨rfl, rfl⟩
        go_wp2_with fail
        refine (inf6 _ _).mono ?_
        rintro e w4 ⟨rfl, rfl⟩
        have hp := HP.out
        subst hp
        go_wp2
        go_ret2
        exact ⟨rfl, Below.refl _ _⟩
      · skip
        rw [hz] at hC
        simp only [hx, hy, hz, reduceIte, true_or, or_true, or_self, true_and, and_true, and_self, and_false, false_and, or_false, false_or, show ¬ (1 : Nat) = 0 from by decide, show ¬ (1 : Nat) = 2 from by decide, show ¬ (1 : Nat) = 3 from by decide, show ¬ (2 : Nat) = 0 from by decide, show ¬ (2 : Nat) = 3 from by decide] at hP
        by_cases hI : c = infB (neg6 a != neg6 b)
        · rw [if_neg (fun h => h hI)] at hP
          have HP := Lib.hid hP
          have HI : Hid ((c : Int) = (infB (neg6 a != neg6 b) : Int)) := Lib.hid (by rw [← hI])
          have hin := fun w => inf6 (neg6 a != neg6 b) w
          generalize infB (neg6 a != neg6 b) = I at *
          clear hP hI hx hy hz
          go_enter Try.func19, Try.ntmps19
          go_wp2_with fail
          refine (hA _).mono ?_
          rintro e w1 ⟨rfl, rfl⟩
          go_wp2_with fail
          refine (hB _).mono ?_
          rintro e w2 ⟨rfl, rfl⟩
          go_wp2_with fail
          refine (hC _).mono ?_
          rintro e w3 ⟨rfl, rfl⟩
          go_wp2_with fail
          refine (hin _).mono ?_
          rintro e w4 ⟨rfl, rfl⟩
          rw [HI.out]
          go_wp2_with fail
          refine (hin _).mono ?_
          rintro e w5 ⟨rfl, rfl⟩
          have hp := HP.out
          subst hp
          go_wp2
          go_ret2
          exact ⟨rfl, Below.refl _ _⟩
        · rw [if_pos hI] at hP
          have hne : ¬ (c : Int) = (infB (neg6 a != neg6 b) : Int) := by omega
          subst hP
          clear hI hx hy hz
          go_enter Try.func19, Try.ntmps19
          go_wp2_with fail
          refine (hA _).mono ?_
          rintro e w1 ⟨rfl, rfl⟩
          go_wp2_with fail
          refine (hB _).mono ?_
          rintro e w2 ⟨rfl, rfl⟩
          go_wp2_with fail
          refine (hC _).mono ?_
          rintro e w3 ⟨rfl, rfl⟩
          go_wp2_with fail
          refine (inf6 (neg6 a != neg6 b) _).mono ?_
          rintro e w4 ⟨rfl, rfl⟩
          generalize infB (neg6 a != neg6 b) = I at *
          go_wp2
          go_ret2
          exact ⟨rfl, Below.refl _ _⟩
      · skip
        rw [hz] at hC
        rw [hx, hy, hz, if_neg (by decide), if_neg (by decide), if_pos (by decide)] at hP
        subst hP
        clear hx hy hz
        go_enter Try.func19, Try.ntmps19
        go_wp2_with fail
        refine (hA _).mono ?_
        rintro e w1 ⟨rfl, rfl⟩
        go_wp2_with fail
        refine (hB _).mono ?_
        rintro e w2 ⟨rfl, rfl⟩
        go_wp2_with fail
        refine (hC _).mono ?_
        rintro e w3 ⟨rfl, rfl⟩
        go_wp2
        go_ret2
        exact ⟨rfl, Below.refl _ _⟩
    · skip
      rw [hx] at hA
      rw [hy] at hB
      rcases hz with hz | hz | hz | hz
      · skip
        rw [hz] at hC
        rw [hx, hy, hz, if_neg (by decide), if_neg (by decide), if_neg (by decide), if_pos (by decide), if_neg (fun h => absurd h.1 (by decide))] at hP
        have HP := Lib.hid hP
        clear hP hx hy hz
        go_enter Try.func19, Try.ntmps19
        go_wp2_with fail
        refine (hA _).mono ?_
        rintro e w1 ⟨rfl, rfl⟩
        go_wp2_with fail
        refine (hB _).mono ?_
        rintro e w2 ⟨rfl, rfl⟩
        go_wp2_with fail
        refine (hC _).mono ?_
        rintro e w3 ⟨rfl, rfl⟩
        go_wp2_with fail
        refine (inf6 _ _).mono ?_
        rintro e w4 ⟨rfl, rfl⟩
        have hp := HP.out
        subst hp
        go_wp2
        go_ret2
        exact ⟨rfl, Below.refl _ _⟩
      · skip
        rw [hz] at hC
        rw [hx, hy, hz, if_neg (by decide), if_neg (by decide), if_neg (by decide), if_pos (by decide), if_neg (fun h => absurd h.1 (by decide))] at hP
        have HP := Lib.hid hP
        clear hP hx hy hz
        go_enter Try.func19, Try.ntmps19
        go_wp2_with fail
        refine (hA _).mono ?_
        rintro e w1 ⟨rfl, rfl⟩
        go_wp2_with fail
        refine (hB _).mono ?_
        rintro e w2 ⟨rfl, rfl⟩
        go_wp2_with fail
        refine (hC _).mono ?_
        rintro e w3 ⟨rfl, rfl⟩
        go_wp2_with fail
        refine (inf6 _ _).mono ?_
        rintro e w4 ⟨rfl, rfl⟩
        have hp := HP.out
        subst hp
        go_wp2
        go_ret2
        exact ⟨rfl, Below.refl _ _⟩
      · skip
        rw [hz] at hC
        simp only [hx, hy, hz, reduceIte, true_or, or_true, or_self, true_and, and_true, and_self, and_false, false_and, or_false, false_or, show ¬ (2 : Nat) = 0 from by decide, show ¬ (2 : Nat) = 3 from by decide] at hP
        by_cases hI : c = infB (neg6 a != neg6 b)
        · rw [if_neg (fun h => h hI)] at hP
          have HP := Lib.hid hP
          have HI : Hid ((c : Int) = (infB (neg6 a != neg6 b) : Int)) := Lib.hid (by rw [← hI])
          have hin := fun w => inf6 (neg6 a != neg6 b) w
          generalize infB (neg6 a != neg6 b) = I at *
          clear hP hI hx hy hz
          go_enter Try.func19, Try.ntmps19
          go_wp2_with fail
          refine (hA _).mono ?_
          rintro e w1 ⟨rfl, rfl⟩
          go_wp2_with fail
          refine (hB _).mono ?_
          rintro e w2 ⟨rfl, rfl⟩
          go_wp2_with fail
          refine (hC _).mono ?_
          rintro e w3 ⟨rfl, rfl⟩
          go_wp2_with fail
          refine (hin _).mono ?_
          rintro e w4 ⟨rfl, rfl⟩
          rw [HI.out]
          go_wp2_with fail
          refine (hin _).mono ?_
          rintro e w5 ⟨rfl, rfl⟩
          have hp := HP.out
          subst hp
          go_wp2
          go_ret2
          exact ⟨rfl, Below.refl _ _⟩
        · rw [if_pos hI] at hP
          have hne : ¬ (c : Int) = (infB (neg6 a != neg6 b) : Int) := by omega
          subst hP
          clear hI hx hy hz
          go_enter Try.func19, Try.ntmps19
          go_wp2_with fail
          refine (hA _).mono ?_
          rintro e w1 ⟨rfl, rfl⟩
          go_wp2_with fail
          refine (hB _).mono ?_
          rintro e w2 ⟨rfl, rfl⟩
          go_wp2_with fail
          refine (hC _).mono ?_
          rintro e w3 ⟨rfl, rfl⟩
          go_wp2_with fail
          refine (inf6 (neg6 a != neg6 b) _).mono ?_
          rintro e w4 ⟨rfl, rfl⟩
          generalize infB (neg6 a != neg6 b) = I at *
          go_wp2
          go_ret2
          exact ⟨rfl, Below.refl _ _⟩
      · skip
        rw [hz] at hC
        rw [hx, hy, hz, if_neg (by decide), if_neg (by decide), if_pos (by decide)] at hP
        subst hP
        clear hx hy hz
        go_enter Try.func19, Try.ntmps19
        go_wp2_with fail
        refine (hA _).mono ?_
        rintro e w1 ⟨rfl, rfl⟩
        go_wp2_with fail
        refine (hB _).mono ?_
        rintro e w2 ⟨rfl, rfl⟩
        go_wp2_with fail
        refine (hC _).mono ?_
        rintro e w3 ⟨rfl, rfl⟩
        go_wp2
        go_ret2
        exact ⟨rfl, Below.refl _ _⟩
    · skip
      rw [hx] at hA
      rw [hy] at hB
      rw [hx, hy, if_pos (by decide)] at hP
      subst hP
      generalize cls c = z at *
      clear hx hy hz
      go_enter Try.func19, Try.ntmps19
      go_wp2_with fail
      refine (hA _).mono ?_
      rintro e w1 ⟨rfl, rfl⟩
      go_wp2_with fail
      refine (hB _).mono ?_
      rintro e w2 ⟨rfl, rfl⟩
      go_wp2_with fail
      refine (hC _).mono ?_
      rintro e w3 ⟨rfl, rfl⟩
      go_wp2
      go_ret2
      exact ⟨rfl, Below.refl _ _⟩
  · rcases hy with hy | hy | hy | hy
    · skip
      rw [hx] at hA
      rw [hy] at hB
      rw [hx, hy, if_pos (by decide)] at hP
      subst hP
      generalize cls c = z at *
      clear hx hy hz
      go_enter Try.func19, Try.ntmps19
      go_wp2_with fail
      refine (hA _).mono ?_
      rintro e w1 ⟨rfl, rfl⟩
      go_wp2_with fail
      refine (hB _).mono ?_
      rintro e w2 ⟨rfl, rfl⟩
      go_wp2_with fail
      refine (hC _).mono ?_
      rintro e w3 ⟨rfl, rfl⟩
      go_wp2
      go_ret2
      exact ⟨rfl, Below.refl _ _⟩
    · skip
      rw [hx] at hA
      rw [hy] at hB
      rw [hx, hy, if_pos (by decide)] at hP
      subst hP
      generalize cls c = z at *
      clear hx hy hz
      go_enter Try.func19, Try.ntmps19
      go_wp2_with fail
      refine (hA _).mono ?_
      rintro e w1 ⟨rfl, rfl⟩
      go_wp2_with fail
      refine (hB _).mono ?_
      rintro e w2 ⟨rfl, rfl⟩
      go_wp2_with fail
      refine (hC _).mono ?_
      rintro e w3 ⟨rfl, rfl⟩
      go_wp2
      go_ret2
      exact ⟨rfl, Below.refl _ _⟩
    · skip
      rw [hx] at hA
      rw [hy] at hB
      rw [hx, hy, if_pos (by decide)] at hP
      subst hP
      generalize cls c = z at *
      clear hx hy hz
      go_enter Try.func19, Try.ntmps19
      go_wp2_with fail
      refine (hA _).mono ?_
      rintro e w1 ⟨rfl, rfl⟩
      go_wp2_with fail
      refine (hB _).mono ?_
      rintro e w2 ⟨rfl, rfl⟩
      go_wp2_with fail
      refine (hC _).mono ?_
      rintro e w3 ⟨rfl, rfl⟩
      go_wp2
      go_ret2
      exact ⟨rfl, Below.refl _ _⟩
    · skip
      rw [hx] at hA
      rw [hy] at hB
      rw [hx, hy, if_pos (by decide)] at hP
      subst hP
      generalize cls c = z at *
      clear hx hy hz
      go_enter Try.func19, Try.ntmps19
      go_wp2_with fail
      refine (hA _).mono ?_
      rintro e w1 ⟨rfl, rfl⟩
      go_wp2_with fail
      refine (hB _).mono ?_
      rintro e w2 ⟨rfl, rfl⟩
      go_wp2_with fail
      refine (hC _).mono ?_
      rintro e w3 ⟨rfl, rfl⟩
      go_wp2
      go_ret2
      exact ⟨rfl, Below.refl _ _⟩
end Go.Proofs.Ytgobclmihppopab
