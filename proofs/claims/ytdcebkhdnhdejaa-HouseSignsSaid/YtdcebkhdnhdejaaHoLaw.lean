/- vernierlaw25: alive, minus, by; HouseSigns, HouseApplies, walked. -/
import Derived.Test.YtdcebkhdnhdejaaHoNum
import Derived.Deep.RegionHeld3
import Derived.Deep.DeepCutAuto
namespace Go.Proofs.Ytdcebkhdnhdejaa
open Go.RowKit Go.Shelf
theorem hol1 : timesU 4613937818241073152 4613937818241073152 = 4621256167635550208 := by decide
theorem hol2 : timesU 4616189618054758400 4616189618054758400 = 4625196817309499392 := by decide
theorem hol3 : plusU 0 4621256167635550208 = 4621256167635550208 := by
  rw [plus_comm]
  unfold plusU
  obtain ⟨h2, h3⟩ := radd_zero (a := 4621256167635550208) (mode := 0) (by decide) (by decide)
  rcases h3 with h3 | ⟨h3, _⟩
  · exact h3
  · exact absurd h3 (by decide)
theorem hol4 : plusU 4621256167635550208 4625196817309499392 = 4627730092099895296 := by decide
theorem hol5 : rootU 4627730092099895296 = 4617315517961601024 := by
  have a2 : sig 4617315517961601024 = 5629499534213120 := by decide
  have a3 : xpo 4617315517961601024 = -50 := by decide
  have p2 : sig 4627730092099895296 = 7036874417766400 := by decide
  have p3 : xpo 4627730092099895296 = -48 := by decide
  unfold rootU
  rw [rsqrt_square (a := 4617315517961601024) (p := 4627730092099895296) (mode := 0) (u := 0) (v := 52) (by decide) (by decide) (by decide) (by decide) (by decide) (by rw [a2, p2]) (by rw [a3, p3]; rfl)]
theorem hol6 : minusU 13840687554816376832 4613937818241073152 = 13844065254536904704 := by decide
theorem hol7 : minusU 4613937818241073152 13840687554816376832 = 4620693217682128896 := by decide
theorem hol8 : cls (quotU 13844065254536904704 13840687554816376832) ≤ 1 := by decide
theorem hol9 : quotU 4616189618054758400 4620693217682128896 = 4602678819172646912 := by decide
theorem hol_make : hoE [4613937818241073152, 4616189618054758400] = 0 ∧ hoRB [4613937818241073152, 4616189618054758400] = 13840687554816376832 := by
  have hd : dotV [4613937818241073152, 4616189618054758400] [4613937818241073152, 4616189618054758400] 2 = 4627730092099895296 := by
    show plusU (plusU 0 (timesU 4613937818241073152 4613937818241073152)) (timesU 4616189618054758400 4616189618054758400) = _
    rw [hol1, hol2, hol3, hol4]
  have hb : hoB [4613937818241073152, 4616189618054758400] = 13840687554816376832 := by
    unfold hoB
    rw [show [4613937818241073152, 4616189618054758400].length = 2 from rfl, hd, hol5]
    decide
  have hg : mirG [4613937818241073152, 4616189618054758400] 13840687554816376832 = 4620693217682128896 := hol7
  have hv : mirV [4613937818241073152, 4616189618054758400] 13840687554816376832 = [4607182418800017408, 4602678819172646912] := by
    unfold mirV
    rw [hg]
    show [4607182418800017408, quotU 4616189618054758400 4620693217682128896] = _
    rw [hol9]
  have ht : cls (mirT [4613937818241073152, 4616189618054758400] 13840687554816376832) ≤ 1 := by
    unfold mirT
    show cls (quotU (minusU 13840687554816376832 4613937818241073152) 13840687554816376832) ≤ 1
    rw [hol6]; exact hol8
  have he : mirE [4613937818241073152, 4616189618054758400] 13840687554816376832 = 0 := by
    unfold mirE
    rw [hv, hg, if_pos ⟨by decide, ht, by decide⟩]
  rcases ho_ways [4613937818241073152, 4616189618054758400] with h | h | h | h | h | h
  · exact absurd (show chkV [4613937818241073152, 4616189618054758400] = 0 by decide) h.1
  · exact absurd h.2.1 (by decide)
  · exact absurd h.2.2.1 (by decide)
  · exact absurd h.2.2.2.1 (by
      unfold dotE
      rw [show bothV [4613937818241073152, 4616189618054758400] [4613937818241073152, 4616189618054758400] 0 = 0 by decide, show [4613937818241073152, 4616189618054758400].length = 2 from rfl, hd]
      decide)
  · have h6 := h.2.2.2.2.2.1
    rw [show [4613937818241073152, 4616189618054758400].length = 2 from rfl, hd, hol5] at h6
    exact absurd h6 (by decide)
  · obtain ⟨_, _, _, _, _, _, e1, _, e3, _⟩ := h
    rw [hb] at e1 e3
    rw [he] at e1 e3
    exact ⟨e1, by rw [e3, if_pos rfl]⟩
theorem l25_alive (w : World) : Calls Try.prog 48 #[] w fun e W' => e = .returned (.bool true) ∧ Below w.heap.size w W' := by
  have b1 := (Below.refl w.heap.size w).alloc (Nat.le_refl _) (.cells #[.int .u64 4613937818241073152, .int .u64 4616189618054758400] 32)
  have af : Arg (w.alloc (.cells #[.int .u64 4613937818241073152, .int .u64 4616189618054758400] 32)) (.slice (some ⟨w.heap.size, 0, none⟩) 2 2) [4613937818241073152, 4616189618054758400] := by
    refine ⟨w.heap.size, by rw [World.size_alloc]; omega, .inr ⟨0, 2, rfl, Nat.le_refl _, fun j hj => ?_⟩⟩
    have : j = 0 ∨ j = 1 := by simp at hj; omega
    rcases this with rfl | rfl
    · rw [World.cell?_alloc_new]; rfl
    · rw [World.cell?_alloc_new]; rfl
  have h := house_make af (by intro y hy; simp only [List.mem_cons, List.not_mem_nil, or_false] at hy; rcases hy with rfl | rfl <;> decide) (by decide)
  rw [hol_make.1, hol_make.2] at h
  generalize hoRT [4613937818241073152, 4616189618054758400] = T at *
  generalize hoRV [4613937818241073152, 4616189618054758400] = V at *
  have HB1 := Lib.hid b1
  clear af b1
  go_enter Try.func48, Try.ntmps48
  go_wp2_with fail
  refine h.mono ?_
  rintro e w1 ⟨a, n, c, rfl, hN, hB⟩
  have HB := Lib.hid (below_both HB1.out hB)
  clear h hB hN
  go_wp2
  go_ret
  exact ⟨rfl, HB.out⟩
theorem l25_minus {a b : Nat} {w : World} (ha : (a : Int) ≤ 18446744073709551615) (hb : (b : Int) ≤ 18446744073709551615) :
    Calls Try.prog 53 #[.int .u64 (a : Int), .int .u64 (b : Int)] w fun e W' => e = .returned (.int .u64 (minusU a b : Int)) ∧ Below w.heap.size w W' := by
  have h := fadd_sub (mode := 0) (w := w) ha hb
  unfold minusU
  generalize rsubt a b 0 = p at *
  obtain ⟨x, y⟩ := p
  dsimp only at h ⊢
  clear ha hb
  go_enter Try.func53, Try.ntmps53
  go_wp2_with fail
  refine h.mono ?_
  rintro e w1 ⟨rfl, b1⟩
  clear h
  go_wp2
  go_ret
  exact ⟨rfl, b1⟩
theorem l25_by {a b : Nat} {w : World} (ha : (a : Int) ≤ 18446744073709551615) (hb : (b : Int) ≤ 18446744073709551615) :
    Calls Try.prog 100 #[.int .u64 (a : Int), .int .u64 (b : Int)] w fun e W' => e = .returned (.int .u64 (quotU a b : Int)) ∧ Below w.heap.size w W' := by
  have h := fdiv_div (mode := 0) (w := w) ha hb
  unfold quotU
  generalize rdiv6 a b 0 = p at *
  obtain ⟨x, y⟩ := p
  dsimp only at h ⊢
  clear ha hb
  go_enter Try.func100, Try.ntmps100
  go_wp2_with fail
  refine h.mono ?_
  rintro e w1 ⟨rfl, b1⟩
  clear h
  go_wp2
  go_ret
  exact ⟨rfl, b1⟩
/-- what HouseSigns asks of what Make tells -/
theorem ho_signs {xs : List Nat} (hx : Low 18446744073709551616 xs) (h : hoE xs = 0) : (hoRV xs).length = xs.length ∧ 0 < xs.length ∧ lim (hoRV xs) 0 = 4607182418800017408 ∧ ((hoRT xs = 0 ∧ hoRB xs = lim xs 0) ∨ decide (9223372036854775808 ≤ (hoRB xs : Int)) ≠ decide (9223372036854775808 ≤ (lim xs 0 : Int))) ∧ hoRB xs ≤ 18446744073709551615 ∧ hoRT xs ≤ 18446744073709551615 := by
  have hl := lim_lt hx (by decide : 0 < 18446744073709551616) 0
  rcases ho_ways xs with ⟨h1, e1, e2, e3, e4⟩ | ⟨h1, h2, e1, e2, e3, e4⟩ | ⟨h1, h2, h3, e1, e2, e3, e4⟩ | ⟨h1, h2, h3, h4, e1, e2, e3, e4⟩ | ⟨h1, h2, h3, h4, h5, h6, e1, e2, e3, e4⟩ | ⟨h1, h2, h3, h4, h5, h6, e1, e2, e3, e4⟩
  · exact absurd (e1.symm.trans h) h1
  · exact absurd (e1.symm.trans h) (by decide)
  · rw [e4, e2, e3]
    unfold hoU
    rw [rowV_length, rowV_lim _ h2]
    exact ⟨rfl, h2, rfl, .inl ⟨rfl, rfl⟩, by omega, by omega⟩
  · exact absurd (e1.symm.trans h) (by decide)
  · exact absurd (e1.symm.trans h) (by decide)
  · have hm : mirE xs (hoB xs) = 0 := e1.symm.trans h
    have hP : Pos (rootU (dotV xs xs xs.length)) := root_pos (dot_self (finB_iff.1 (chkV_ok.1 h1).2))
    rw [e4, e2, e3, if_pos hm, if_pos hm, if_pos hm]
    unfold mirV
    rw [rowV_length, rowV_lim _ h2]
    refine ⟨rfl, h2, rfl, .inr ?_, ?_, quotU_lt _ _⟩
    · unfold hoB
      unfold Pos at hP
      by_cases hs : lim xs 0 < 9223372036854775808
      · rw [if_pos hs, decide_eq_true (by omega), decide_eq_false (by omega)]; decide
      · rw [if_neg hs, decide_eq_false (by omega), decide_eq_true (by omega)]; decide
    · unfold hoB
      unfold Pos at hP
      split <;> omega
set_option maxRecDepth 100000 in
set_option maxHeartbeats 8000000 in
theorem houseSigns_calls {va : Option Addr} {m cap : Nat} {xs : List Nat} {w : World} (hA : Arg w (.slice va m cap) xs) (hx : Low 18446744073709551616 xs) (hxn : xs.length ≤ 17592186044415) :
    Calls Try.prog 13 #[.slice va m cap] w fun e W' => e = .returned (.bool true) ∧ Below w.heap.size w W' := by
  have hpos : 0 < w.heap.size := by obtain ⟨S, hS, _⟩ := hA; omega
  have hmx : m = xs.length := by
    obtain ⟨a', c', e⟩ := hA.slice
    simp only [Value.slice.injEq] at e
    omega
  have hal := l25_alive w
  have HM := Lib.hid (fun (W : World) (h : Below w.heap.size w W) => house_make (hA.behind h) hx hxn)
  have HV : Hid (hoE xs ≠ 0 → hoRV xs = []) := Lib.hid (fun h => by unfold hoRV; rw [if_pos h])
  by_cases hE : hoE xs = 0
  · obtain ⟨g1, g2, g3, g4, g5, g6⟩ := ho_signs hx hE
    rw [hE] at HM
    obtain ⟨S, sa, sc, hS, es1, _, HXO⟩ := hA.opened
    simp only [Value.slice.injEq] at es1
    obtain ⟨rfl, -, rfl⟩ := es1
    obtain ⟨off, rfl, kx⟩ := HXO.out w (Below.refl _ _) 0 g2
    rw [Nat.add_zero] at kx
    have HKX : Hid (∀ W, Below w.heap.size w W → W.cell? ⟨S, off, none⟩ = some (.int .u64 (lim xs 0 : Int))) := Lib.hid (fun W h => (h.cell (p := ⟨S, off, none⟩) hS).trans kx)
    have HG3 := Lib.hid g3
    have HG1 := Lib.hid (g1.trans hmx.symm)
    generalize hoRV xs = V at *
    generalize hoRT xs = T at *
    generalize hoRB xs = b at *
    generalize lim xs 0 = x0 at *
    have hm0 : 0 < m := by omega
    have hm1 : (0 : Int) < (m : Int) := by omega
    have HG4 := Lib.hid g4
    have hb1 : (b : Int) ≤ 18446744073709551615 := by omega
    clear hE hA hx hxn hmx g1 g2 g3 g4 g5 g6 HV kx
    go_enter Try.func13, Try.ntmps13
    go_wp2_with fail
    refine hal.mono ?_
    rintro e w1 ⟨rfl, b1⟩
    clear hal
    go_wp2_with fail
    refine (HM.out _ b1).mono ?_
    rintro e w2 ⟨a2, n2, c2, rfl, hN, b2⟩
    have B2 := below_both b1 b2
    have kx := HKX.out _ B2
    obtain ⟨T2, ta, tc, hT, e5, _, HX5⟩ := hN.arg.opened
    rw [HG1.out] at e5 HX5
    simp only [Value.slice.injEq] at e5
    obtain ⟨rfl, rfl, rfl⟩ := e5
    obtain ⟨o, rfl, k0⟩ := HX5.out w2 (Below.refl _ _) 0 hm0
    rw [Nat.add_zero, HG3.out] at k0
    have HB := Lib.hid B2
    clear hN b1 b2 HX5 HG3 HG1 HM B2 hT
    rcases HG4.out with ⟨rfl, rfl⟩ | hne
    · clear HG4
      have q1 : ((b : Int) == (b : Int)) = true := by simp
      go_wp2
      go_ret
      exact ⟨rfl, HB.out⟩
    · clear HG4
      have key : ∀ p q : Bool, decide (9223372036854775808 ≤ (b : Int)) = p → decide (9223372036854775808 ≤ (x0 : Int)) = q → p ≠ q := fun p q h1 h2 => by rw [← h1, ← h2]; exact hne
      have HKEY := Lib.hid key
      clear key hne
      by_cases hT0 : ((T : Int) == 0) = true
      · by_cases hb0 : ((b : Int) == (x0 : Int)) = true
        · exfalso
          have e1 : (b : Int) = (x0 : Int) := by simpa using hb0
          exact HKEY.out _ _ rfl (by rw [← e1]) rfl
        · have hb0' : ((b : Int) == (x0 : Int)) = false := by simpa using hb0
          clear hb0
          cases hp : decide (9223372036854775808 ≤ (b : Int)) <;> cases hq : decide (9223372036854775808 ≤ (x0 : Int))
          · exact absurd rfl (HKEY.out _ _ hp hq)
          · clear HKEY
            go_wp2
            go_ret
            exact ⟨rfl, HB.out⟩
          · clear HKEY
            go_wp2
            go_ret
            exact ⟨rfl, HB.out⟩
          · exact absurd rfl (HKEY.out _ _ hp hq)
      · have hT0' : ((T : Int) == 0) = false := by simpa using hT0
        clear hT0
        cases hp : decide (9223372036854775808 ≤ (b : Int)) <;> cases hq : decide (9223372036854775808 ≤ (x0 : Int))
        · exact absurd rfl (HKEY.out _ _ hp hq)
        · clear HKEY
          go_wp2
          go_ret
          exact ⟨rfl, HB.out⟩
        · clear HKEY
          go_wp2
          go_ret
          exact ⟨rfl, HB.out⟩
        · exact absurd rfl (HKEY.out _ _ hp hq)
  · have hV := HV.out hE
    rw [hV] at HM
    have d : (hoE xs != 0) = true := bne_iff_ne.2 hE
    generalize hoE xs = E at *
    generalize hoRT xs = T at *
    generalize hoRB xs = b at *
    clear hE hA hx hxn hmx HV hV
    go_enter Try.func13, Try.ntmps13
    go_wp2_with fail
    refine hal.mono ?_
    rintro e w1 ⟨rfl, b1⟩
    clear hal
    go_wp2_with fail
    refine (HM.out _ b1).mono ?_
    rintro e w2 ⟨a2, n2, c2, rfl, hN, b2⟩
    obtain rfl : n2 = 0 := by
      obtain ⟨a8, c8, e8⟩ := hN.arg.slice
      simp only [Value.slice.injEq, List.length_nil] at e8
      exact e8.2.1
    have HB := Lib.hid (below_both b1 b2)
    clear hN b1 b2 HM
    go_wp2
    go_ret
    exact ⟨rfl, HB.out⟩
end Go.Proofs.Ytdcebkhdnhdejaa
