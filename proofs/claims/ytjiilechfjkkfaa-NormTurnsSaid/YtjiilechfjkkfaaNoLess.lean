/- vernierlaw23: alive; NormLess, walked. -/
import Derived.Test.YtjiilechfjkkfaaNoOne
import Derived.Test.YtjiilechfjkkfaaShMake
namespace Go.Proofs.Ytjiilechfjkkfaa
open Go.RowKit Go.Shelf
theorem plus_ones : plusU 0 4607182418800017408 = 4607182418800017408 ∧ plusU 4607182418800017408 0 = 4607182418800017408 ∧ plusU 0 0 = 0 := by
  have h1 := plus_pos1 (a := 4607182418800017408) (b := 0) (by unfold Pos; decide) (by unfold Pos; decide)
  have e : radd 4607182418800017408 0 0 = (4607182418800017408, 0) := by
    obtain ⟨h2, h3⟩ := radd_zero (a := 4607182418800017408) (mode := 0) (by decide) (by decide)
    rcases h3 with h3 | ⟨h3, _⟩
    · exact Prod.ext h3 h2
    · exact absurd h3 (by decide)
  have e2 : plusU 4607182418800017408 0 = 4607182418800017408 := by unfold plusU; rw [e]
  exact ⟨by rw [plus_comm]; exact e2, e2, by decide⟩
theorem l23_one : finM 2 2 4 [4607182418800017408, 0, 0, 4607182418800017408] = 0 ∧ oneV [4607182418800017408, 0, 0, 4607182418800017408] 2 2 = 4607182418800017408 := by
  refine ⟨by decide, ?_⟩
  have e : oneV [4607182418800017408, 0, 0, 4607182418800017408] 2 2 = max (max 0 (plusU (plusU 0 4607182418800017408) 0)) (plusU (plusU 0 0) 4607182418800017408) := rfl
  rw [e, plus_ones.1, plus_ones.2.1, plus_ones.2.2, plus_ones.1]
  decide
set_option maxHeartbeats 4000000 in
theorem l23_alive (w : World) : Calls Try.prog 40 #[] w fun e W' => e = .returned (.bool true) ∧ Below w.heap.size w W' := by
  have hid := shape_ident (n := 2) w (by decide) (by decide)
  rw [show (tab 2 2 fun i j => if i = j then 4607182418800017408 else 0) = [4607182418800017408, 0, 0, 4607182418800017408] from rfl] at hid
  have hO := fun (W : World) (b : Option Addr) (c : Nat) (h : Arg W (.slice b (2 * 2) c) [4607182418800017408, 0, 0, 4607182418800017408]) => norm_one (R := 2) (C := 2) h (by
    intro x hx
    simp only [List.mem_cons, List.not_mem_nil, or_false] at hx
    rcases hx with rfl | rfl | rfl | rfl <;> decide)
  rw [l23_one.1, show (2 : Int).toNat = 2 from rfl, l23_one.2, show tolR 0 4607182418800017408 = 4607182418800017408 from by decide, show tolE 0 4607182418800017408 = 0 from by decide] at hO
  have HO := Lib.hid hO
  clear hO
  go_enter Try.func40, Try.ntmps40
  go_wp2_with fail
  refine hid.mono ?_
  rintro e w1 ⟨b, c, rfl, hN, b1⟩
  obtain ⟨b2, K⟩ := mbox w1 #[.int .i64 2, .int .i64 2, .slice b (2 * 2) c] 24 _ rfl
  have hA := hN.arg.behind b2
  have k0 := K.cell (i := 0) rfl
  have k1 := K.cell (i := 1) rfl
  have k2 := K.cell (i := 2) rfl
  have B := below_both b1 b2
  clear hid hN b1 b2
  go_wp2_with fail
  refine (HO.out _ _ _ hA).mono ?_
  rintro e w2 ⟨rfl, b3⟩
  go_wp2
  go_ret
  exact ⟨rfl, below_both B b3⟩
/-- what a matrix whose numbers are finite has -/
theorem fin_all {R C : Int} {m : Nat} {xs : List Nat} (h : finM R C m xs = 0) (hmx : m = xs.length) : ∀ k, k < m → cls (lim xs k) ≤ 1 := by
  obtain ⟨_, _, _, _, _, _, _, q8⟩ := finM_may0 h
  rw [hmx, finU_finB] at q8
  have hb : finB xs xs.length = true := by
    cases hb : finB xs xs.length
    · rw [hb] at q8; exact absurd q8 (by decide)
    · rfl
  intro k hk
  exact finB_iff.1 hb k (by omega)
theorem mx_lt {f : Nat → Nat} {n b : Nat} (hb : 0 < b) (h : ∀ k, k < n → f k < b) : mx f n < b := by
  induction n with
  | zero => exact hb
  | succ n ih => exact Nat.max_lt.2 ⟨ih fun k hk => h k (by omega), h n (by omega)⟩
theorem max_fin {xs : List Nat} {n : Nat} (h : ∀ k, k < n → cls (lim xs k) ≤ 1) : maxU xs n = mx (fun k => mag (lim xs k)) n ∧ cls (maxU xs n) ≤ 1 ∧ maxU xs n < 9218868437227405312 ∧ ∀ k, k < n → mag (lim xs k) ≤ maxU xs n := by
  have e := (maxU_mx (xs := xs) (n := n) fun k hk => (fin_mag (h k hk)).2.2.2).1
  have hl : mx (fun k => mag (lim xs k)) n < 9218868437227405312 := mx_lt (by decide) fun k hk => (fin_mag (h k hk)).2.1
  rw [e]
  refine ⟨rfl, ?_, hl, fun k hk => mx_ge (f := fun k => mag (lim xs k)) hk⟩
  have hp : Pos (mx (fun k => mag (lim xs k)) n) := Nat.le_of_lt hl
  exact ((pos_facts hp).2.2.2.2.2 (Nat.ne_of_lt hl)).1
theorem max_less {xs : List Nat} {r c : Nat} (h : ∀ k, k < r * c → cls (lim xs k) ≤ 1) : mx (fun k => mag (lim xs k)) (r * c) ≤ oneV xs r c ∧ mx (fun k => mag (lim xs k)) (r * c) ≤ infV xs r c := by
  have hp : ∀ k, k < r * c → Pos (mag (lim xs k)) := fun k hk => (fin_mag (h k hk)).1
  have hix : ∀ i j, i < r → j < c → i * c + j < r * c := fun i j hi hj => by
    have := Nat.mul_le_mul_right c (show i + 1 ≤ r from hi)
    rw [Nat.add_mul, Nat.one_mul] at this
    omega
  have hsp : ∀ k, k < r * c → k / c < r ∧ k % c < c ∧ k / c * c + k % c = k := fun k hk => by
    have hc : 0 < c := by
      rcases Nat.eq_zero_or_pos c with e | e
      · subst e; simp at hk
      · exact e
    exact ⟨by rwa [Nat.div_lt_iff_lt_mul hc], Nat.mod_lt _ hc, by rw [Nat.mul_comm]; exact Nat.div_add_mod k c⟩
  constructor
  · refine mx_le fun k hk => ?_
    obtain ⟨h1, h2, h3⟩ := hsp k hk
    have e1 := (sumS_pos (f := colF xs r c (k % c)) (n := r) fun t ht => hp _ (hix t _ ht h2)).2 (k / c) h1
    have e2 : colF xs r c (k % c) (k / c) = mag (lim xs k) := by unfold colF; rw [h3]
    rw [e2] at e1
    exact Nat.le_trans e1 (mx_ge (f := colS xs r c) h2)
  · refine mx_le fun k hk => ?_
    obtain ⟨h1, h2, h3⟩ := hsp k hk
    have e1 := (sumS_pos (f := rowF xs r c (k / c)) (n := c) fun t ht => hp _ (hix _ t h1 ht)).2 (k % c) h2
    have e2 : rowF xs r c (k / c) (k % c) = mag (lim xs k) := by unfold rowF; rw [h3]
    rw [e2] at e1
    exact Nat.le_trans e1 (mx_ge (f := rowS xs r c) h1)
set_option maxRecDepth 100000 in
set_option maxHeartbeats 8000000 in
theorem normLess_calls {R C : Int} {a : Option Addr} {m cap : Nat} {xs : List Nat} {w : World} (hA : Arg w (.slice a m cap) xs) (hx : Low 18446744073709551616 xs) (hn : xs.length ≤ 17592186044416) :
    Calls Try.prog 10 #[.agg #[.int .i64 R, .int .i64 C, .slice a m cap]] w fun e W' => e = .returned (.bool true) ∧ Below w.heap.size w W' := by
  obtain ⟨B, G⟩ := mbox w #[.int .i64 R, .int .i64 C, .slice a m cap] 24 _ rfl
  have hal := l23_alive
  have HM := Lib.hid (fun (W : World) (h : Below w.heap.size w W) => norm_max (R := R) (C := C) (hA.behind h) hx hn)
  have HO := Lib.hid (fun (W : World) (h : Below w.heap.size w W) => norm_one (R := R) (C := C) (hA.behind h) hx)
  have HI := Lib.hid (fun (W : World) (h : Below w.heap.size w W) => norm_inf (R := R) (C := C) (hA.behind h) hx)
  have hmx : m = xs.length := by
    obtain ⟨a', c', e⟩ := hA.slice
    simp only [Value.slice.injEq] at e
    omega
  have c0 := G.cell (i := 0) rfl
  have c1 := G.cell (i := 1) rfl
  have c2 := G.cell (i := 2) rfl
  by_cases hf : finM R C m xs = 0
  · have hfa := fin_all hf hmx
    obtain ⟨q1, q2, q3, q4, q5, q6, q7, q8⟩ := finM_may0 hf
    obtain ⟨r, rfl⟩ : ∃ r : Nat, R = r := ⟨R.toNat, by omega⟩
    obtain ⟨c, rfl⟩ : ∃ r : Nat, C = r := ⟨C.toNat, by omega⟩
    have hmn : m = r * c := by rw [← Int.natCast_mul] at q5; omega
    rw [hf] at HM HO HI
    rw [← hmx] at HM
    rw [Int.toNat_natCast, Int.toNat_natCast] at HO HI
    obtain ⟨m1, m2, m3, m4⟩ := max_fin hfa
    have hle := max_less (r := r) (c := c) (xs := xs) (by rw [← hmn]; exact hfa)
    rw [← hmn, ← m1] at hle
    have t1 := tol_ways (maxU xs m)
    have t2 := tol_ways (oneV xs r c)
    have t3 := tol_ways (infV xs r c)
    have HXL := Lib.hid (fun k => lim_lt hx (by decide : 0 < 18446744073709551616) k)
    obtain ⟨S, a', c'', hS, e, hcap, HX⟩ := hA.opened
    simp only [Value.slice.injEq] at e
    obtain ⟨rfl, -, rfl⟩ := e
    rw [← hmx] at HX
    obtain ⟨e1, e2⟩ : tolE 0 (maxU xs m) = 0 ∧ tolR 0 (maxU xs m) = maxU xs m := by
      rcases t1 with ⟨_, e1, e2⟩ | ⟨q, _⟩
      · exact ⟨e1, e2⟩
      · exact absurd m2 q
    rw [e1, e2] at HM
    have hm4 : (m : Int) ≤ 4096 := by omega
    obtain ⟨l1, l2⟩ := hle
    have HM4 := Lib.hid m4
    generalize maxU xs m = v at *
    generalize oneV xs r c = v1 at *
    generalize infV xs r c = v2 at *
    have f1 : (tolE 0 v1 != 0) = true ∨ (tolE 0 v1 = 0 ∧ decide ((v : Int) ≤ (tolR 0 v1 : Int)) = true) := by
      rcases t2 with ⟨_, h1, h2⟩ | ⟨_, h1, h2⟩
      · right; exact ⟨h1, decide_eq_true (by rw [h2]; omega)⟩
      · left; rw [h1]; rfl
    have f2 : (tolE 0 v2 != 0) = true ∨ (tolE 0 v2 = 0 ∧ decide ((v : Int) ≤ (tolR 0 v2 : Int)) = true) := by
      rcases t3 with ⟨_, h1, h2⟩ | ⟨_, h1, h2⟩
      · right; exact ⟨h1, decide_eq_true (by rw [h2]; omega)⟩
      · left; rw [h1]; rfl
    clear t1 t2 t3 l1 l2 m1 m2 m3 m4 e1 e2 hfa hf q1 q2 q3 q4 q5 q6 q7 q8 hmn hmx hA hx hn hcap
    generalize tolE 0 v1 = E1 at *
    generalize tolR 0 v1 = R1 at *
    generalize tolE 0 v2 = E2 at *
    generalize tolR 0 v2 = R2 at *
    have F1 := Lib.hid f1
    have F2 := Lib.hid f2
    clear f1 f2
    go_enter Try.func10, Try.ntmps10
    go_wp2_with fail
    generalize w.alloc (.cells #[.int .i64 (r : Int), .int .i64 (c : Int), .slice a m cap] 24) = W0 at *
    refine (hal _).mono ?_
    rintro e w1 ⟨rfl, b1⟩
    replace B := below_both B b1
    replace G := G.behind b1
    have c0 := G.cell (i := 0) rfl
    have c1 := G.cell (i := 1) rfl
    have c2 := G.cell (i := 2) rfl
    clear hal b1
    go_wp2_with fail
    refine (HM.out _ B).mono ?_
    rintro e w2 ⟨rfl, b2⟩
    replace B := below_both B b2
    replace G := G.behind b2
    have c0 := G.cell (i := 0) rfl
    have c1 := G.cell (i := 1) rfl
    have c2 := G.cell (i := 2) rfl
    clear b2 HM
    go_wp2_with fail
    refine (HO.out _ B).mono ?_
    rintro e w3 ⟨rfl, b3⟩
    replace B := below_both B b3
    replace G := G.behind b3
    have c0 := G.cell (i := 0) rfl
    have c1 := G.cell (i := 1) rfl
    have c2 := G.cell (i := 2) rfl
    clear b3 HO
    go_wp2_with fail
    refine (HI.out _ B).mono ?_
    rintro e w4 ⟨rfl, b4⟩
    replace B := below_both B b4
    replace G := G.behind b4
    clear b4 HI c0 c1 c2
    go_wp2
    go_loopw [9] (fun i wr => ∃ k : Nat, k ≤ m ∧ i = .int .i64 k ∧ Below w4.heap.size w4 wr) (fun i _ => m - (intOf i).toNat)
    case atStart => exact ⟨0, Nat.zero_le _, rfl, Below.refl _ _⟩
    case round =>
      obtain ⟨k, hk, rfl, hB⟩ := hrel
      have c2 : wr.cell? ⟨w.heap.size, 2, none⟩ = some (.slice a m cap) := (G.behind hB).cell (i := 2) rfl
      by_cases hlt : k < m
      · obtain ⟨oa, rfl, ka⟩ := HX.out wr (below_both B hB) k hlt
        have n1 := not_top (HXL.out k)
        have h1 := HM4.out k hlt
        have m1 : lim xs k % 9223372036854775808 = mag (lim xs k) := rfl
        rw [m1] at n1
        generalize lim xs k = x at *
        generalize mag x = mg at *
        have d : decide ((v : Int) < (mg : Int)) = false := decide_eq_false (by omega)
        have d2 : decide (v < mg) = false := decide_eq_false (by omega)
        clear h1 m1
        go_wp2
        exact ⟨⟨k + 1, by omega, by simp, hB⟩, by simp [intOf]; omega⟩
      · obtain rfl : k = m := by omega
        clear hlt
        have HB := Lib.hid (below_both B hB)
        rcases F1.out with g1 | ⟨g1, g2⟩
        · rcases F2.out with h1 | ⟨h1, h2⟩
          · go_wp2
            go_ret
            exact ⟨rfl, HB.out⟩
          · subst h1
            have d3 : decide (v ≤ R2) = true := decide_eq_true (by have := of_decide_eq_true h2; omega)
            go_wp2
            go_ret
            exact ⟨rfl, HB.out⟩
        · subst g1
          have d4 : decide (v ≤ R1) = true := decide_eq_true (by have := of_decide_eq_true g2; omega)
          rcases F2.out with h1 | ⟨h1, h2⟩
          · go_wp2
            go_ret
            exact ⟨rfl, HB.out⟩
          · subst h1
            have d3 : decide (v ≤ R2) = true := decide_eq_true (by have := of_decide_eq_true h2; omega)
            go_wp2
            go_ret
            exact ⟨rfl, HB.out⟩
  · have d : (finM R C m xs != 0) = true := bne_iff_ne.2 hf
    have e1 := tol_no (F := finM R C m xs) (maxU xs xs.length) hf
    have e2 := tol_no (F := finM R C m xs) (oneV xs R.toNat C.toNat) hf
    have e3 := tol_no (F := finM R C m xs) (infV xs R.toNat C.toNat) hf
    rw [e1.1, e1.2] at HM
    rw [e2.1, e2.2] at HO
    rw [e3.1, e3.2] at HI
    have d2 : (finM R C m xs == finM R C m xs) = true := by simp
    clear e1 e2 e3 hmx hA hx hn hf
    generalize finM R C m xs = F at *
    go_enter Try.func10, Try.ntmps10
    go_wp2_with fail
    generalize w.alloc (.cells #[.int .i64 R, .int .i64 C, .slice a m cap] 24) = W0 at *
    refine (hal _).mono ?_
    rintro e w1 ⟨rfl, b1⟩
    replace B := below_both B b1
    replace G := G.behind b1
    have c0 := G.cell (i := 0) rfl
    have c1 := G.cell (i := 1) rfl
    have c2 := G.cell (i := 2) rfl
    clear hal b1
    go_wp2_with fail
    refine (HM.out _ B).mono ?_
    rintro e w2 ⟨rfl, b2⟩
    replace B := below_both B b2
    replace G := G.behind b2
    have c0 := G.cell (i := 0) rfl
    have c1 := G.cell (i := 1) rfl
    have c2 := G.cell (i := 2) rfl
    clear b2
    go_wp2_with fail
    refine (HO.out _ B).mono ?_
    rintro e w3 ⟨rfl, b3⟩
    replace B := below_both B b3
    replace G := G.behind b3
    have c0 := G.cell (i := 0) rfl
    have c1 := G.cell (i := 1) rfl
    have c2 := G.cell (i := 2) rfl
    clear b3
    go_wp2_with fail
    refine (HI.out _ B).mono ?_
    rintro e w4 ⟨rfl, b4⟩
    go_wp2
    go_ret
    exact ⟨rfl, below_both B b4⟩
end Go.Proofs.Ytjiilechfjkkfaa
