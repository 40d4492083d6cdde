/- pivot: isFrom0, Search. -/
import Derived.Test.YtjljmccdlkdgoaaVeLar
import Derived.Test.YtjljmccdlkdgoaaOw
import Derived.Test.YtjljmccdlkdgoaaNeMax
namespace Go.Proofs.Ytjljmccdlkdgoaa
open Go.RowKit Go.Shelf
def inB (n c : Int) : Bool := decide (0 ≤ n ∧ n < c)
theorem inB_iff {n c : Int} : inB n c = true ↔ 0 ≤ n ∧ n < c := decide_eq_true_iff
theorem pivot_from0 {n c : Int} {w : World} : Calls Try.prog 19 #[.int .i64 n, .int .i64 c] w fun e W' => e = .returned (.bool (inB n c)) ∧ w = W' := by
  by_cases k1 : 0 ≤ n
  · by_cases k2 : n < c
    · rw [show inB n c = true from decide_eq_true ⟨k1, k2⟩]
      go_enter Try.func19, Try.ntmps19
      go_wp2
      go_ret
      exact ⟨rfl, rfl⟩
    · rw [show inB n c = false from decide_eq_false (fun h => k2 h.2)]
      go_enter Try.func19, Try.ntmps19
      go_wp2
      go_ret
      exact ⟨rfl, rfl⟩
  · rw [show inB n c = false from decide_eq_false (fun h => k1 h.1)]
    go_enter Try.func19, Try.ntmps19
    go_wp2
    go_ret
    exact ⟨rfl, rfl⟩
/-- k words of a column, from a row on -/
def colW (xs : List Nat) (C col f k : Nat) : List Nat := (List.range k).map fun t => lim xs ((f + t) * C + col)
theorem colW_length (xs : List Nat) (C col f k : Nat) : (colW xs C col f k).length = k := by simp [colW]
theorem colW_succ (xs : List Nat) (C col f k : Nat) : colW xs C col f (k + 1) = colW xs C col f k ++ [lim xs ((f + k) * C + col)] := by
  unfold colW; rw [List.range_succ, List.map_append, List.map_singleton]
theorem colW_at {xs : List Nat} {C col f k t : Nat} (h : t < k) : lim (colW xs C col f k) t = lim xs ((f + t) * C + col) := by
  unfold colW
  show (((List.range k).map fun t => lim xs ((f + t) * C + col))[t]?).getD 0 = _
  rw [List.getElem?_map, List.getElem?_range h, Option.map_some, Option.getD_some]
theorem colW_low {xs : List Nat} (h : Low 18446744073709551616 xs) (C col f k : Nat) : Low 18446744073709551616 (colW xs C col f k) := by
  intro x hx
  unfold colW at hx
  obtain ⟨t, _, rfl⟩ := List.mem_map.1 hx
  exact lim_lt h (by decide) _
def pivE (R C : Int) (m : Nat) (col f : Int) : Int := if mayM R C m then (if inB col C && inB f R then 0 else 4) else 11
def pivR (xs : List Nat) (R C : Int) (m : Nat) (col f : Int) : Int := if pivE R C m col f = 0 then f + max (larV (colW xs C.toNat col.toNat f.toNat (R.toNat - f.toNat)) (R.toNat - f.toNat)).1 0 else 0
theorem mayM_facts {R C : Int} {m : Nat} (h : mayM R C m = true) : 1 ≤ R ∧ R ≤ 64 ∧ 1 ≤ C ∧ C ≤ 64 ∧ (m : Int) = R * C := by
  simpa [mayM, and_assoc] using h
set_option maxRecDepth 100000 in
set_option maxHeartbeats 8000000 in
theorem pivot_search {R C col f : Int} {m : Nat} {a : Option Addr} {cap : Nat} {xs : List Nat} {w : World} (hA : Arg w (.slice a m cap) xs) (hl : Low 18446744073709551616 xs) :
    Calls Try.prog 8 #[.agg #[.int .i64 R, .int .i64 C, .slice a m cap], .int .i64 col, .int .i64 f] w fun e W' => e = .returned (.tuple #[.int .i64 (pivR xs R C m col f), .int .i64 (pivE R C m col f)]) ∧ Below w.heap.size w W' := by
  obtain ⟨B, G⟩ := mbox w #[.int .i64 R, .int .i64 C, .slice a m cap] 24 _ rfl
  have c00 := G.cell (i := 0) rfl
  have c01 := G.cell (i := 1) rfl
  have c02 := G.cell (i := 2) rfl
  have hk := fun w => shape_check (R := R) (C := C) (a := a) (m := m) (cap := cap) (w := w)
  have hi1 := fun w => pivot_from0 (n := col) (c := C) (w := w)
  have hi2 := fun w => pivot_from0 (n := f) (c := R) (w := w)
  cases hm : mayM R C m
  · rw [show chkM R C m = 11 by unfold chkM; rw [hm]; rfl] at hk
    have e1 : pivE R C m col f = 11 := by unfold pivE; rw [hm]; rfl
    have e2 : pivR xs R C m col f = 0 := by unfold pivR; rw [if_neg (by rw [e1]; decide)]
    rw [e1, e2]
    clear hm hA hi1 hi2 e1 e2
    go_enter Try.func8, Try.ntmps8
    go_wp2_with fail
    generalize w.alloc (.cells #[.int .i64 R, .int .i64 C, .slice a m cap] 24) = W0 at *
    refine (hk _).mono ?_
    rintro e w1 ⟨rfl, b1⟩
    go_wp2
    go_ret2
    exact ⟨rfl, below_both B b1⟩
  · rw [show chkM R C m = 0 by unfold chkM; rw [hm]; rfl] at hk
    cases hb : inB col C && inB f R
    · have e1 : pivE R C m col f = 4 := by unfold pivE; rw [hm, hb]; rfl
      have e2 : pivR xs R C m col f = 0 := by unfold pivR; rw [if_neg (by rw [e1]; decide)]
      rw [e1, e2]
      generalize inB col C = b1 at *
      generalize inB f R = b2 at *
      have hways : b1 = false ∨ b1 = true ∧ b2 = false := by revert hb; cases b1 <;> cases b2 <;> simp
      clear hm hA e1 e2 hb
      rcases hways with rfl | ⟨rfl, rfl⟩
      · go_enter Try.func8, Try.ntmps8
        go_wp2_with fail
        generalize w.alloc (.cells #[.int .i64 R, .int .i64 C, .slice a m cap] 24) = W0 at *
        refine (hk _).mono ?_
        rintro e w1 ⟨rfl, b1⟩
        have c01 := (G.behind b1).cell (i := 1) rfl
        go_wp2_with fail
        refine (hi1 _).mono ?_
        rintro e w2 ⟨rfl, rfl⟩
        go_wp2
        go_ret2
        exact ⟨rfl, below_both B b1⟩
      · go_enter Try.func8, Try.ntmps8
        go_wp2_with fail
        generalize w.alloc (.cells #[.int .i64 R, .int .i64 C, .slice a m cap] 24) = W0 at *
        refine (hk _).mono ?_
        rintro e w1 ⟨rfl, b1⟩
        have c01 := (G.behind b1).cell (i := 1) rfl
        have c00 := (G.behind b1).cell (i := 0) rfl
        go_wp2_with fail
        refine (hi1 _).mono ?_
        rintro e w2 ⟨rfl, rfl⟩
        go_wp2_with fail
        refine (hi2 _).mono ?_
        rintro e w2 ⟨rfl, rfl⟩
        go_wp2
        go_ret2
        exact ⟨rfl, below_both B b1⟩
    · obtain ⟨q1, q2, q3, q4, q5⟩ := mayM_facts hm
      rw [Bool.and_eq_true] at hb
      obtain ⟨k1, k2⟩ := inB_iff.1 hb.1
      obtain ⟨k3, k4⟩ := inB_iff.1 hb.2
      rw [hb.1] at hi1
      rw [hb.2] at hi2
      obtain ⟨r, rfl⟩ : ∃ r : Nat, R = r := ⟨R.toNat, by omega⟩
      obtain ⟨c, rfl⟩ : ∃ c : Nat, C = c := ⟨C.toNat, by omega⟩
      obtain ⟨j, rfl⟩ : ∃ j : Nat, col = j := ⟨col.toNat, by omega⟩
      obtain ⟨g, rfl⟩ : ∃ g : Nat, f = g := ⟨f.toNat, by omega⟩
      have e1 : pivE r c m j g = 0 := by unfold pivE; rw [hm, hb.1, hb.2]; rfl
      have e2 : pivR xs r c m j g = g + max (larV (colW xs c j g (r - g)) (r - g)).1 0 := by
        unfold pivR; rw [if_pos e1]; simp only [Int.toNat_natCast]
      rw [e1, e2]
      have hmn : m = r * c := by rw [← Int.natCast_mul] at q5; omega
      have hxl : m = xs.length := by
        obtain ⟨a', c', e⟩ := hA.slice
        simp only [Value.slice.injEq] at e
        exact e.2.1
      have hrc : r * c ≤ 4096 := by have := Nat.mul_le_mul (show r ≤ 64 by omega) (show c ≤ 64 by omega); omega
      have HMN := Lib.hid (And.intro hmn (And.intro hxl hrc))
      have hrg := larV_range (colW xs c j g (r - g)) (r - g)
      have HLG := Lib.hid (fun (W : World) (v : Value) (h : Arg W v (colW xs c j g (r - g))) => vec_largest h (colW_low hl c j g (r - g)) (by rw [colW_length]; omega))
      have HCL := Lib.hid (colW_length xs c j g (r - g))
      have HS := Lib.hid (colW_succ xs c j g)
      have H0 := Lib.hid (show colW xs c j g 0 = [] from rfl)
      have HLN := Lib.hid (fun k => colW_length xs c j g k)
      obtain ⟨S, a', c', hS, e, hcap, HA⟩ := hA.opened
      simp only [Value.slice.injEq] at e
      obtain ⟨rfl, -, rfl⟩ := e
      have hw0 : w.heap.size < (w.alloc (.cells #[.int .i64 (r : Int), .int .i64 (c : Int), .slice a m cap] 24)).heap.size := by rw [World.size_alloc]; omega
      clear hm hA hb q5 hmn hxl hrc hcap e1 e2 hl
      rw [HCL.out] at HLG
      generalize larV (colW xs c j g (r - g)) (r - g) = LV at *
      obtain ⟨z, n⟩ := LV
      dsimp only at hrg ⊢
      go_enter Try.func8, Try.ntmps8
      go_wp2_with fail
      generalize w.alloc (.cells #[.int .i64 (r : Int), .int .i64 (c : Int), .slice a m cap] 24) = W0 at *
      refine (hk _).mono ?_
      rintro e w1 ⟨rfl, b1⟩
      replace B := below_both B b1
      replace G := G.behind b1
      replace hw0 := Nat.lt_of_lt_of_le hw0 b1.size
      have c00 := G.cell (i := 0) rfl
      have c01 := G.cell (i := 1) rfl
      clear hk b1
      go_wp2_with fail
      refine (hi1 _).mono ?_
      rintro e w2 ⟨rfl, rfl⟩
      go_wp2_with fail
      refine (hi2 _).mono ?_
      rintro e w2 ⟨rfl, rfl⟩
      clear hi1 hi2
      go_wp2
      go_loopw [9, 10] (fun d i wr => ∃ t : Nat, g + t ≤ r ∧ i = .int .i64 ((g : Int) + (t : Int)) ∧ OwnK .u64 32 w1.heap.size wr d (zn (colW xs c j g t)) ∧ Below w1.heap.size w1 wr) (fun _ i _ => r - (intOf i).toNat)
      case atStart => exact ⟨0, by omega, by simp, by rw [H0.out]; exact OwnK.nil _ _ _ _, Below.refl _ _⟩
      case round =>
        obtain ⟨t, ht, rfl, ho, hB⟩ := hrel
        have c00 := (G.behind hB).cell (i := 0) rfl
        by_cases hlt : g + t < r
        · have hrc := HMN.out.2.2
          have hmn := HMN.out.1
          have m1 : (g + t) * c + c ≤ r * c := by
            have := Nat.mul_le_mul_right c (show g + t + 1 ≤ r from hlt)
            rw [Nat.add_mul, Nat.one_mul] at this
            exact this
          obtain ⟨P, hP⟩ : ∃ P, P = (g + t) * c := ⟨_, rfl⟩
          have hPm : P + j < m := by omega
          obtain ⟨off, rfl, ka⟩ := HA.out wr (below_both B hB) (P + j) (by rw [← HMN.out.2.1]; exact hPm)
          have e1 : IntKind.i64.wrap (((g : Int) + (t : Int)) * (c : Int)) = (P : Int) := by
            rw [show ((g : Int) + (t : Int)) * (c : Int) = (P : Int) by rw [hP, Int.natCast_mul, Int.natCast_add]]
            exact IntWalk.i64_in _ (by omega)
          have e2 : IntKind.i64.wrap ((P : Int) + (j : Int)) = ((P + j : Nat) : Int) := by rw [← Int.natCast_add]; exact IntWalk.i64_in _ (by omega)
          have HS1 := Lib.hid (HS.out t)
          rw [← hP] at HS1
          have c01 := (G.behind hB).cell (i := 1) rfl
          have c02 := (G.behind hB).cell (i := 2) rfl
          have hlen : (zn (colW xs c j g t)).length + 1 ≤ 17592186044416 := by rw [zn_length, colW_length]; omega
          have hlt2 : (g : Int) + (t : Int) < (r : Int) := by omega
          have hgt : (g : Int) + (t : Int) ≤ 63 := by omega
          generalize lim xs (P + j) = x at *
          generalize hQ : P + j = Q at *
          have hQm : (Q : Int) < (m : Int) := by omega
          clear hP m1 hrc hmn hPm hQ
          go_wp2_with (at_builtin; refine app_u64 rfl _ _ rfl rfl rfl (cell_new1 _ _ _) (ho.alloc _) hlen (by have := hB.size; simp; omega) ?_; intro v' w3 ho3 b3)
          go_roundw
          case rel => exact ⟨t + 1, by omega, by simp; omega, by rw [HS1.out, zn_snoc]; exact ho3, (hB.alloc hB.size _).trans b3⟩
          case measure => simp [intOf]; omega
        · obtain rfl : r = g + t := by omega
          have hA := (new_zn.2 (ho.new (by have := hB.size; omega))).arg
          rw [show g + t - g = t by omega] at HLG
          have HL2 := Lib.hid (HLG.out wr _ hA)
          clear ho hA HLG hlt
          have hmx : ∀ (w : World) (ts : Array TypeId) (ty : TypeId), (Builtin.max_ ts ty #[.int .i64 z, .int .i64 0]).run Try.prog w = .ok (.int .i64 (max z 0)) w := fun w ts ty => max_twoM w ts ty z 0
          have hz : max z 0 ≤ (g + t : Nat) := by omega
          have hz0 : 0 ≤ max z 0 := by omega
          generalize hzz : max z 0 = zz at hmx hz hz0
          have HZZ := Lib.hid hzz
          clear hzz
          go_wp2_with fail
          refine HL2.out.mono ?_
          rintro e w4 ⟨rfl, b4⟩
          go_wp2
          go_ret2
          exact ⟨by rw [HZZ.out]; rfl, below_both B (below_both hB b4)⟩
end Go.Proofs.Ytjljmccdlkdgoaa
