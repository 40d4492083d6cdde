/- The law PivotBack, walked. -/
import Derived.Test.YtjljmccdlkdgoaaPiTells
import Derived.Test.YtjljmccdlkdgoaaShMake
namespace Go.Proofs.Ytjljmccdlkdgoaa
open Go.RowKit Go.Shelf
theorem heap_ex3 {W : World} {g q : Nat} {x y z : Value} (h : q ≠ g) : (((W.setCell ⟨g, 0, none⟩ x).setCell ⟨g, 1, none⟩ y).setCell ⟨g, 2, none⟩ z).heap[q]? = W.heap[q]? :=
  (Below.heap_setCell _ ⟨g, 2, none⟩ _ _ h).trans ((Below.heap_setCell _ ⟨g, 1, none⟩ _ _ h).trans (Below.heap_setCell _ ⟨g, 0, none⟩ _ _ h))
theorem swpR_twice (i k r : Nat) : swpR i k (swpR i k r) = r := by
  unfold swpR
  by_cases h1 : r = i
  · rw [if_pos h1]
    by_cases h2 : k = i
    · rw [if_pos h2, h2, h1]
    · rw [if_neg h2, if_pos rfl, h1]
  · rw [if_neg h1]
    by_cases h2 : r = k
    · rw [if_pos h2, if_pos rfl, h2]
    · rw [if_neg h2, if_neg h1, if_neg h2]
theorem swpR_lt {R i k r : Nat} (hi : i < R) (hk : k < R) (hr : r < R) : swpR i k r < R := by
  unfold swpR
  split
  · exact hk
  · split
    · exact hi
    · exact hr
theorem swpC_twice {R C i k : Nat} {xs : List Nat} (hl : xs.length = R * C) (hi : i < R) (hk : k < R) : swpC C i k C (swpC C i k C xs) = xs := by
  refine ext_lim (by rw [swpC_length, swpC_length]) fun p hp => ?_
  rw [swpC_length, swpC_length, hl] at hp
  have hC : 0 < C := by
    rcases Nat.eq_zero_or_pos C with h | h
    · subst h; omega
    · exact h
  have hd := Nat.div_add_mod p C
  have hm := Nat.mod_lt p hC
  have hr : p / C < R := Nat.div_lt_of_lt_mul (by rw [Nat.mul_comm]; exact hp)
  have e : p = p / C * C + p % C := by rw [Nat.mul_comm]; exact hd.symm
  rw [e, swpC_at (R := R) (by rw [swpC_length]; exact hl) hr hm, swpC_at (R := R) hl (swpR_lt hi hk hr) hm, swpR_twice]
theorem exL_back {R C n : Nat} {f g f' g' : Nat → Int} {xs : List Nat} (hl : xs.length = R * C) (hf : ∀ k, k < n → goodP R f g k) (h1 : ∀ k, k < n → f' k = f (n - 1 - k)) (h2 : ∀ k, k < n → g' k = g (n - 1 - k)) : exL C f' g' (exL C f g xs n) n = xs := by
  have key : ∀ j, j ≤ n → exL C f' g' (exL C f g xs n) j = exL C f g xs (n - j) := by
    intro j
    induction j with
    | zero => intro _; rfl
    | succ j ih =>
      intro hj
      show swpC C (f' j).toNat (g' j).toNat C (exL C f' g' (exL C f g xs n) j) = _
      obtain ⟨a, b⟩ := hf (n - 1 - j) (by omega)
      obtain ⟨a1, a2⟩ := inB_iff.1 a
      obtain ⟨b1, b2⟩ := inB_iff.1 b
      rw [ih (by omega), h1 j (by omega), h2 j (by omega), show n - j = (n - 1 - j) + 1 by omega]
      show swpC C _ _ C (swpC C _ _ C (exL C f g xs (n - 1 - j))) = _
      rw [swpC_twice (R := R) (by rw [exL_length]; exact hl) (by omega) (by omega), show n - 1 - j = n - (j + 1) by omega]
  rw [key n (Nat.le_refl _), Nat.sub_self]
  rfl
def okB (R : Int) (zs : List Int) (k : Nat) : Bool := decide ((zs.length : Int) ≤ R) && (List.range k).all fun j => inB (zat zs j) R
theorem okB_succ (R : Int) (zs : List Int) (k : Nat) : okB R zs (k + 1) = (okB R zs k && inB (zat zs k) R) := by
  unfold okB
  rw [List.range_succ, List.all_append, List.all_cons, List.all_nil, Bool.and_true, Bool.and_assoc]
theorem okB_iff {R : Int} {zs : List Int} : okB R zs zs.length = true ↔ (zs.length : Int) ≤ R ∧ ∀ j, j < zs.length → inB (zat zs j) R = true := by
  unfold okB
  rw [Bool.and_eq_true, decide_eq_true_iff, List.all_eq_true]
  exact ⟨fun ⟨h1, h2⟩ => ⟨h1, fun j hj => h2 j (List.mem_range.2 hj)⟩, fun ⟨h1, h2⟩ => ⟨h1, fun j hj => h2 j (List.mem_range.1 hj)⟩⟩
theorem good_fore {R : Nat} {zs : List Int} (h0 : 1 ≤ R) : (∀ k, k < zs.length → goodP R (fun k => (k : Int)) (fun k => zat zs k) k) ↔ okB R zs zs.length = true := by
  rw [okB_iff]
  constructor
  · intro h
    refine ⟨?_, fun j hj => (h j hj).2⟩
    rcases Nat.eq_zero_or_pos zs.length with e | e
    · rw [e]; omega
    · have := (inB_iff.1 (h (zs.length - 1) (by omega)).1).2
      dsimp only at this
      omega
  · rintro ⟨h1, h2⟩ k hk
    exact ⟨inB_iff.2 ⟨by dsimp only; omega, by dsimp only; omega⟩, h2 k hk⟩
theorem good_back {R : Nat} {zs : List Int} (h0 : 1 ≤ R) : (∀ k, k < zs.length → goodP R (fun k => ((zs.length - 1 - k : Nat) : Int)) (fun k => zat zs (zs.length - 1 - k)) k) ↔ okB R zs zs.length = true := by
  rw [okB_iff]
  constructor
  · intro h
    refine ⟨?_, fun j hj => ?_⟩
    · rcases Nat.eq_zero_or_pos zs.length with e | e
      · rw [e]; omega
      · have := (inB_iff.1 (h 0 (by omega)).1).2
        dsimp only at this
        omega
    · have := (h (zs.length - 1 - j) (by omega)).2
      dsimp only at this
      rwa [show zs.length - 1 - (zs.length - 1 - j) = j by omega] at this
  · rintro ⟨h1, h2⟩ k hk
    exact ⟨inB_iff.2 ⟨by dsimp only; omega, by dsimp only; omega⟩, h2 _ (by omega)⟩
theorem exE_fore {R C m : Nat} {zs : List Int} (hm : mayM R C m = true) : exE R C m zs.length (fun k => (k : Int)) (fun k => zat zs k) = if okB R zs zs.length = true then 0 else 4 := by
  have h0 : 1 ≤ R := by have := (mayM_facts hm).1; omega
  unfold exE
  rw [if_pos hm]
  by_cases h : okB R zs zs.length = true
  · rw [if_pos h, if_pos ((good_fore h0).2 h)]
  · rw [if_neg h, if_neg (fun hh => h ((good_fore h0).1 hh))]
theorem exE_back {R C m : Nat} {zs : List Int} (hm : mayM R C m = true) : exE R C m zs.length (fun k => ((zs.length - 1 - k : Nat) : Int)) (fun k => zat zs (zs.length - 1 - k)) = if okB R zs zs.length = true then 0 else 4 := by
  have h0 : 1 ≤ R := by have := (mayM_facts hm).1; omega
  unfold exE
  rw [if_pos hm]
  by_cases h : okB R zs zs.length = true
  · rw [if_pos h, if_pos ((good_back h0).2 h)]
  · rw [if_neg h, if_neg (fun hh => h ((good_back h0).1 hh))]
set_option maxRecDepth 100000 in
set_option maxHeartbeats 16000000 in
theorem pivotBack_no {R C : Int} {m : Nat} {a av : Option Addr} {cap nz cv : Nat} {xs : List Nat} {zs : List Int} {w : World} (hA : Arg w (.slice a m cap) xs) (hZ : ArgK .i64 w (.slice av nz cv) zs) (hzl : zs.length ≤ 1000000000000000000) (hm : mayM R C m = false) :
    Calls Try.prog 4 #[.agg #[.int .i64 R, .int .i64 C, .slice a m cap], .slice av nz cv] w fun e W' => e = .returned (.bool true) ∧ Below w.heap.size w W' := by
  obtain ⟨B, G⟩ := mbox w #[.int .i64 R, .int .i64 C, .slice a m cap] 24 _ rfl
  have hal := fun w => l24_alive (w := w)
  have HAP := Lib.hid (fun (W : World) (h : Below w.heap.size w W) => pivot_apply (R := R) (C := C) (hA.behind h) (hZ.behind h) hzl)
  have HBK := Lib.hid (fun (W : World) (h : Below w.heap.size w W) => pivot_back (R := R) (C := C) (hA.behind h) (hZ.behind h) hzl)
  have HC := Lib.hid (fun W => shape_check (R := R) (C := C) (a := a) (m := m) (cap := cap) (w := W))
  rw [show exE R C m zs.length (fun k => (k : Int)) (fun k => zat zs k) = 11 by unfold exE; rw [hm, if_neg (by decide)]] at HAP
  rw [show exE R C m zs.length (fun k => ((zs.length - 1 - k : Nat) : Int)) (fun k => zat zs (zs.length - 1 - k)) = 11 by unfold exE; rw [hm, if_neg (by decide)]] at HBK
  rw [show chkM R C m = 11 by unfold chkM; rw [hm]; rfl] at HC
  generalize exL C.toNat (fun k => (k : Int)) (fun k => zat zs k) xs zs.length = LA at *
  generalize exL C.toNat (fun k => ((zs.length - 1 - k : Nat) : Int)) (fun k => zat zs (zs.length - 1 - k)) xs zs.length = LB at *
  clear hm hA hZ hzl
  go_enter Try.func4, Try.ntmps4
  go_wp2_with fail
  generalize w.alloc (.cells #[.int .i64 R, .int .i64 C, .slice a m cap] 24) = W0 at *
  refine (hal _).mono ?_
  rintro e w1 ⟨rfl, bz⟩
  replace B := below_both B bz
  replace G := G.behind bz
  clear hal bz
  have c0 := G.cell (i := 0) rfl
  have c1 := G.cell (i := 1) rfl
  have c2 := G.cell (i := 2) rfl
  go_wp2_with fail
  refine (HAP.out _ B).mono ?_
  rintro e w2 ⟨⟨ra1, ca1, ba1, qa1, ka1, rfl, hx1⟩, bz⟩
  replace B := below_both B bz
  replace G := G.behind bz
  clear HAP bz c0 c1 c2
  obtain ⟨bz, G1⟩ := mbox w2 #[.int .i64 ra1, .int .i64 ca1, .slice ba1 qa1 ka1] 24 _ rfl
  have hgs1 : w.heap.size < w2.heap.size := G.lt
  replace B := below_both B bz
  replace G := G.behind bz
  replace hx1 := hx1.imp (fun ⟨h1, h2, h3, h4, h5⟩ => And.intro h1 (And.intro h2 (And.intro h3 (And.intro h4 (h5.behind bz))))) id
  clear bz
  have c0 := G.cell (i := 0) rfl
  have c1 := G.cell (i := 1) rfl
  have c2 := G.cell (i := 2) rfl
  have HG1 : Hid True := Lib.hid trivial
  go_wp2_with fail
  generalize w2.alloc (.cells #[.int .i64 ra1, .int .i64 ca1, .slice ba1 qa1 ka1] 24) = w3 at *
  refine (HBK.out _ B).mono ?_
  rintro e w4 ⟨⟨ra2, ca2, ba2, qa2, ka2, rfl, hx2⟩, bz⟩
  replace B := below_both B bz
  replace G := G.behind bz
  replace G1 := G1.behind bz
  replace hx1 := hx1.imp (fun ⟨h1, h2, h3, h4, h5⟩ => And.intro h1 (And.intro h2 (And.intro h3 (And.intro h4 (h5.behind bz))))) id
  clear HBK bz c0 c1 c2
  obtain ⟨bz, G2⟩ := mbox w4 #[.int .i64 ra2, .int .i64 ca2, .slice ba2 qa2 ka2] 24 _ rfl
  have hgs2 : w.heap.size < w4.heap.size := G.lt
  replace B := below_both B bz
  replace G := G.behind bz
  replace hx1 := hx1.imp (fun ⟨h1, h2, h3, h4, h5⟩ => And.intro h1 (And.intro h2 (And.intro h3 (And.intro h4 (h5.behind bz))))) id
  replace hx2 := hx2.imp (fun ⟨h1, h2, h3, h4, h5⟩ => And.intro h1 (And.intro h2 (And.intro h3 (And.intro h4 (h5.behind bz))))) id
  replace G1 := G1.behind bz
  clear bz
  have c0 := G.cell (i := 0) rfl
  have c1 := G.cell (i := 1) rfl
  have c2 := G.cell (i := 2) rfl
  have HG2 : Hid True := Lib.hid trivial
  go_wp2_with fail
  generalize w4.alloc (.cells #[.int .i64 ra2, .int .i64 ca2, .slice ba2 qa2 ka2] 24) = w5 at *
  refine (HC.out _).mono ?_
  rintro e w6 ⟨rfl, bz⟩
  replace B := below_both B bz
  replace G := G.behind bz
  replace G1 := G1.behind bz
  replace G2 := G2.behind bz
  replace hx1 := hx1.imp (fun ⟨h1, h2, h3, h4, h5⟩ => And.intro h1 (And.intro h2 (And.intro h3 (And.intro h4 (h5.behind bz))))) id
  replace hx2 := hx2.imp (fun ⟨h1, h2, h3, h4, h5⟩ => And.intro h1 (And.intro h2 (And.intro h3 (And.intro h4 (h5.behind bz))))) id
  clear HC bz c0 c1 c2 HG1 HG2

  rcases hx1 with ⟨h, -⟩ | ⟨-, rfl, rfl, rfl, rfl, rfl⟩
  · exact absurd h (by decide)
  rcases hx2 with ⟨h, -⟩ | ⟨-, rfl, rfl, rfl, rfl, rfl⟩
  · exact absurd h (by decide)
  have d2 := G1.cell (i := 2) rfl
  have e2 := G2.cell (i := 2) rfl
  go_wp2
  go_ret
  exact ⟨rfl, B⟩
set_option maxRecDepth 100000 in
set_option maxHeartbeats 32000000 in
theorem pivotBack_yes {R C : Nat} {m : Nat} {a av : Option Addr} {cap nz cv : Nat} {xs : List Nat} {zs : List Int} {w : World} (hA : Arg w (.slice a m cap) xs) (hZ : ArgK .i64 w (.slice av nz cv) zs) (hzl : zs.length ≤ 1000000000000000000) (hm : mayM R C m = true) :
    Calls Try.prog 4 #[.agg #[.int .i64 (R : Int), .int .i64 (C : Int), .slice a m cap], .slice av nz cv] w fun e W' => e = .returned (.bool true) ∧ Below w.heap.size w W' := by
  obtain ⟨B, G⟩ := mbox w #[.int .i64 (R : Int), .int .i64 (C : Int), .slice a m cap] 24 _ rfl
  have hal := fun w => l24_alive (w := w)
  have HAP := Lib.hid (fun (W : World) (h : Below w.heap.size w W) => pivot_apply (R := R) (C := C) (hA.behind h) (hZ.behind h) hzl)
  have HBK := Lib.hid (fun (W : World) (h : Below w.heap.size w W) => pivot_back (R := R) (C := C) (hA.behind h) (hZ.behind h) hzl)
  have HC := Lib.hid (fun W => shape_check (R := R) (C := C) (a := a) (m := m) (cap := cap) (w := W))
  obtain ⟨q1, q2, q3, q4, q5⟩ := mayM_facts hm
  have hmn : m = R * C := by rw [← Int.natCast_mul] at q5; omega
  have hxl : xs.length = m := by
    obtain ⟨a', c', e⟩ := hA.slice
    simp only [Value.slice.injEq] at e
    exact e.2.1.symm
  have hrc : R * C ≤ 4096 := by have := Nat.mul_le_mul (show R ≤ 64 by omega) (show C ≤ 64 by omega); omega
  rw [exE_fore hm] at HAP
  rw [exE_back hm] at HBK
  rw [show (C : Int).toNat = C from rfl] at HAP HBK
  rw [show chkM R C m = 0 by unfold chkM; rw [hm]; rfl] at HC
  -- what swapped twice is
  have HID : Hid (okB R zs zs.length = true → exL C (fun k => ((zs.length - 1 - k : Nat) : Int)) (fun k => zat zs (zs.length - 1 - k)) (exL C (fun k => (k : Int)) (fun k => zat zs k) xs zs.length) zs.length = xs ∧ exL C (fun k => (k : Int)) (fun k => zat zs k) (exL C (fun k => ((zs.length - 1 - k : Nat) : Int)) (fun k => zat zs (zs.length - 1 - k)) xs zs.length) zs.length = xs) := Lib.hid (fun h =>
    ⟨exL_back (by omega) ((good_fore (by omega)).2 h) (fun k _ => rfl) (fun k _ => rfl), exL_back (by omega) ((good_back (by omega)).2 h) (fun k hk => by show (k : Int) = ((zs.length - 1 - (zs.length - 1 - k) : Nat) : Int); omega) (fun k hk => by show zat zs k = zat zs (zs.length - 1 - (zs.length - 1 - k)); rw [show zs.length - 1 - (zs.length - 1 - k) = k by omega])⟩)
  have HSW : Hid (okB R zs zs.length = true → ∀ i, i < zs.length → ∀ (W : World) (b : Option Addr) (c : Nat), Arg W (.slice b m c) (exL C (fun k => (k : Int)) (fun k => zat zs k) xs i) → Calls Try.prog 9 #[.agg #[.int .i64 (R : Int), .int .i64 (C : Int), .slice b m c], .int .i64 (i : Int), .int .i64 (zat zs i)] W fun e W' => ∃ b' c', e = .returned (.tuple #[.agg #[.int .i64 (R : Int), .int .i64 (C : Int), .slice b' m c'], .int .i64 0]) ∧ New W.heap.size W' (.slice b' m c') (exL C (fun k => (k : Int)) (fun k => zat zs k) xs (i + 1)) ∧ Below W.heap.size W W') := Lib.hid (fun hok i hi W b c h => by
    refine (pivot_swap (R := R) (C := C) (i := (i : Int)) (k := zat zs i) h).mono ?_
    rintro e W' ⟨⟨r, c', b', q, cc, rfl, hx⟩, bz⟩
    have hgp := (good_fore (by omega)).2 hok i hi
    have hE : exE R C m 1 (fun _ => (i : Int)) (fun _ => zat zs i) = 0 := by
      rw [exE_one, hm, if_pos rfl, if_pos]
      rw [Bool.and_eq_true]
      exact hgp
    rcases hx with ⟨-, rfl, rfl, rfl, hN⟩ | ⟨h, -⟩
    · rw [hE]
      exact ⟨b', cc, rfl, hN, bz⟩
    · exact absurd hE h)
  have HAPL : Hid (∀ (W : World) (b : Option Addr) (c : Nat) (ys : List Nat), Below w.heap.size w W → Arg W (.slice b m c) ys → Calls Try.prog 12 #[.agg #[.int .i64 (R : Int), .int .i64 (C : Int), .slice b m c], .slice av nz cv] W fun e W' => MatOut R C m (if okB R zs zs.length = true then 0 else 4) (exL C (fun k => (k : Int)) (fun k => zat zs k) ys zs.length) W.heap.size e W' ∧ Below W.heap.size W W') := Lib.hid (fun W b c ys hb h => by
    rw [← exE_fore (C := C) hm]
    exact pivot_apply (R := R) (C := C) h (hZ.behind hb) hzl)
  have HBKL : Hid (∀ (W : World) (b : Option Addr) (c : Nat) (ys : List Nat), Below w.heap.size w W → Arg W (.slice b m c) ys → Calls Try.prog 13 #[.agg #[.int .i64 (R : Int), .int .i64 (C : Int), .slice b m c], .slice av nz cv] W fun e W' => MatOut R C m (if okB R zs zs.length = true then 0 else 4) (exL C (fun k => ((zs.length - 1 - k : Nat) : Int)) (fun k => zat zs (zs.length - 1 - k)) ys zs.length) W.heap.size e W' ∧ Below W.heap.size W W') := Lib.hid (fun W b c ys hb h => by
    rw [← exE_back (C := C) hm]
    exact pivot_back (R := R) (C := C) h (hZ.behind hb) hzl)
  have HLN : Hid ((∀ i, (exL C (fun k => (k : Int)) (fun k => zat zs k) xs i).length = m) ∧ (∀ i, (exL C (fun k => ((zs.length - 1 - k : Nat) : Int)) (fun k => zat zs (zs.length - 1 - k)) xs i).length = m) ∧ xs.length = m ∧ m ≤ 4096) := Lib.hid ⟨fun i => by rw [exL_length]; exact hxl, fun i => by rw [exL_length]; exact hxl, hxl, by omega⟩
  have HSM : Hid (∀ (W : World) (b1 b2 : Option Addr) (k1 k2 : Nat) (ys : List Nat), ys.length = m → Arg W (.slice b1 m k1) ys → Arg W (.slice b2 m k2) ys → Calls Try.prog 14 #[.agg #[.int .i64 (R : Int), .int .i64 (C : Int), .slice b1 m k1], .agg #[.int .i64 (R : Int), .int .i64 (C : Int), .slice b2 m k2]] W fun e W' => e = .returned (.bool true) ∧ Below W.heap.size W W') := Lib.hid (fun W b1 b2 k1 k2 ys hy h1 h2 => by
    have h := shape_same (R := R) (C := C) (R' := R) (C' := C) h1 h2 (by omega) (by omega)
    rwa [show sameM R C R C ys ys = true by unfold sameM; rw [decide_eq_true rfl, decide_eq_true rfl, decide_eq_true rfl]; rfl] at h)
  have HAA := Lib.hid hA
  have HM0 : Hid (0 < m) := Lib.hid (by rw [hmn]; exact Nat.mul_pos (by omega) (by omega))
  have HOK0 : Hid (okB R zs 0 = decide ((zs.length : Int) ≤ (R : Int))) := Lib.hid (by unfold okB; rw [List.range_zero, List.all_nil, Bool.and_true])
  have HOKS := Lib.hid (okB_succ R zs)
  obtain ⟨OK, hOK⟩ : ∃ f, f = okB R zs := ⟨_, rfl⟩
  obtain ⟨LA, hLA⟩ : ∃ f, f = exL C (fun k => (k : Int)) (fun k => zat zs k) := ⟨_, rfl⟩
  obtain ⟨LB, hLB⟩ : ∃ f, f = exL C (fun k => ((zs.length - 1 - k : Nat) : Int)) (fun k => zat zs (zs.length - 1 - k)) := ⟨_, rfl⟩
  have HL0 : Hid (LA xs 0 = xs) := Lib.hid (by rw [hLA]; rfl)
  rw [← hOK] at HAP HBK HID HSW HAPL HBKL HOK0 HOKS
  rw [← hLA] at HAP HSW HAPL
  rw [← hLB] at HBK HBKL
  rw [← hLA, ← hLB] at HID HLN
  obtain ⟨S, aa, cc, hS, ev, hcap, HZ⟩ := hZ.opened
  simp only [Value.slice.injEq] at ev
  obtain ⟨rfl, rfl, rfl⟩ := ev
  clear hOK hLA hLB hA hZ hm hmn hxl hrc q5 hS
  generalize hn : zs.length = n at *
  have HN := Lib.hid hn
  clear hn
  obtain ⟨EE, hEE⟩ : ∃ E : Int, E = if OK n = true then 0 else 4 := ⟨_, rfl⟩
  rw [← hEE] at HAP HBK HAPL HBKL
  have HEE := Lib.hid hEE
  clear hEE
  go_enter Try.func4, Try.ntmps4
  go_wp2_with fail
  generalize w.alloc (.cells #[.int .i64 (R : Int), .int .i64 (C : Int), .slice a m cap] 24) = W0 at *
  refine (hal _).mono ?_
  rintro e w1 ⟨rfl, bz⟩
  replace B := below_both B bz
  replace G := G.behind bz
  clear hal bz
  have c0 := G.cell (i := 0) rfl
  have c1 := G.cell (i := 1) rfl
  have c2 := G.cell (i := 2) rfl
  go_wp2_with fail
  refine (HAP.out _ B).mono ?_
  rintro e w2 ⟨⟨ra1, ca1, ba1, qa1, ka1, rfl, hx1⟩, bz⟩
  replace B := below_both B bz
  replace G := G.behind bz
  clear HAP bz c0 c1 c2
  obtain ⟨bz, G1⟩ := mbox w2 #[.int .i64 ra1, .int .i64 ca1, .slice ba1 qa1 ka1] 24 _ rfl
  have hgs1 : w.heap.size < w2.heap.size := G.lt
  replace B := below_both B bz
  replace G := G.behind bz
  replace hx1 := hx1.imp (fun ⟨h1, h2, h3, h4, h5⟩ => And.intro h1 (And.intro h2 (And.intro h3 (And.intro h4 (h5.behind bz))))) id
  clear bz
  have c0 := G.cell (i := 0) rfl
  have c1 := G.cell (i := 1) rfl
  have c2 := G.cell (i := 2) rfl
  have HG1 : Hid True := Lib.hid trivial
  go_wp2_with fail
  generalize w2.alloc (.cells #[.int .i64 ra1, .int .i64 ca1, .slice ba1 qa1 ka1] 24) = w3 at *
  refine (HBK.out _ B).mono ?_
  rintro e w4 ⟨⟨ra2, ca2, ba2, qa2, ka2, rfl, hx2⟩, bz⟩
  replace B := below_both B bz
  replace G := G.behind bz
  replace G1 := G1.behind bz
  replace hx1 := hx1.imp (fun ⟨h1, h2, h3, h4, h5⟩ => And.intro h1 (And.intro h2 (And.intro h3 (And.intro h4 (h5.behind bz))))) id
  clear HBK bz c0 c1 c2
  obtain ⟨bz, G2⟩ := mbox w4 #[.int .i64 ra2, .int .i64 ca2, .slice ba2 qa2 ka2] 24 _ rfl
  have hgs2 : w.heap.size < w4.heap.size := G.lt
  replace B := below_both B bz
  replace G := G.behind bz
  replace hx1 := hx1.imp (fun ⟨h1, h2, h3, h4, h5⟩ => And.intro h1 (And.intro h2 (And.intro h3 (And.intro h4 (h5.behind bz))))) id
  replace hx2 := hx2.imp (fun ⟨h1, h2, h3, h4, h5⟩ => And.intro h1 (And.intro h2 (And.intro h3 (And.intro h4 (h5.behind bz))))) id
  replace G1 := G1.behind bz
  clear bz
  have c0 := G.cell (i := 0) rfl
  have c1 := G.cell (i := 1) rfl
  have c2 := G.cell (i := 2) rfl
  have HG2 : Hid True := Lib.hid trivial
  go_wp2_with fail
  generalize w4.alloc (.cells #[.int .i64 ra2, .int .i64 ca2, .slice ba2 qa2 ka2] 24) = w5 at *
  refine (HC.out _).mono ?_
  rintro e w6 ⟨rfl, bz⟩
  replace B := below_both B bz
  replace G := G.behind bz
  replace G1 := G1.behind bz
  replace G2 := G2.behind bz
  replace hx1 := hx1.imp (fun ⟨h1, h2, h3, h4, h5⟩ => And.intro h1 (And.intro h2 (And.intro h3 (And.intro h4 (h5.behind bz))))) id
  replace hx2 := hx2.imp (fun ⟨h1, h2, h3, h4, h5⟩ => And.intro h1 (And.intro h2 (And.intro h3 (And.intro h4 (h5.behind bz))))) id
  clear HC bz c0 c1 c2 HG1 HG2

  have c0 := G.cell (i := 0) rfl
  have HB6 := Lib.hid B
  have o0 := HOK0.out
  go_wp2
  go_loopw [9, 10] (fun o z wr => ∃ i : Nat, i ≤ n ∧ z = .int .i64 i ∧ o = .bool (OK i) ∧ Below w6.heap.size w6 wr) (fun _ z _ => n - (intOf z).toNat)
  case atStart => exact ⟨0, Nat.zero_le _, rfl, by rw [o0]; congr 1; exact decide_eq_decide.2 (by omega), Below.refl _ _⟩
  case round =>
    clear c0 o0
    obtain ⟨i, hi, rfl, rfl, hB⟩ := hrel
    have c0 := (G.behind hB).cell (i := 0) rfl
    by_cases hlt : i < n
    · as_aux_lemma =>
      have hic : decide ((i : Int) < (n : Int)) = true := decide_eq_true (by omega)
      have e5 : IntKind.i64.wrap ((i : Int) + 1) = ((i + 1 : Nat) : Int) := by rw [Int.natCast_add]; exact IntWalk.i64_in _ (by omega)
      obtain ⟨off, rfl, kc⟩ := HZ.out wr (below_both B hB) i hlt
      have hs := Lib.hid (HOKS.out i)
      have hlim : (i : Int) < (n : Int) := by omega
      obtain ⟨o1, ho1⟩ : ∃ o, o = OK i := ⟨_, rfl⟩
      rw [← ho1] at hs ⊢
      clear ho1
      generalize zat zs i = z at *
      cases o1
      · have HS : Hid (OK (i + 1) = false) := Lib.hid hs.out
        clear hs kc
        go_wp2
        go_quiet (fail)
        go_wp2
        exact ⟨⟨i + 1, by omega, rfl, by rw [HS.out], below_both hB (below_drewN _ _ _)⟩, by simp [intOf]; omega⟩
      · by_cases k1 : 0 ≤ z
        · have x1 : decide (0 ≤ z) = true := decide_eq_true k1
          by_cases k2 : z < (R : Int)
          · have x2 : decide (z < (R : Int)) = true := decide_eq_true k2
            have HS : Hid (OK (i + 1) = true) := Lib.hid (by rw [hs.out, inB_iff.2 ⟨k1, k2⟩]; rfl)
            clear hs k1 k2
            go_wp2
            go_quiet (fail)
            go_wp2
            exact ⟨⟨i + 1, by omega, rfl, by rw [HS.out], below_both hB (below_drewN _ _ _)⟩, by simp [intOf]; omega⟩
          · have x2 : decide (z < (R : Int)) = false := decide_eq_false k2
            have HS : Hid (OK (i + 1) = false) := Lib.hid (by
              rw [hs.out]
              cases h : inB z R
              · rfl
              · exact absurd (inB_iff.1 h).2 k2)
            clear hs k1 k2
            go_wp2
            go_quiet (fail)
            go_wp2
            exact ⟨⟨i + 1, by omega, rfl, by rw [HS.out], below_both hB (below_drewN _ _ _)⟩, by simp [intOf]; omega⟩
        · have x1 : decide (0 ≤ z) = false := decide_eq_false k1
          have HS : Hid (OK (i + 1) = false) := Lib.hid (by
            rw [hs.out]
            cases h : inB z R
            · rfl
            · exact absurd (inB_iff.1 h).1 k1)
          clear hs k1
          go_wp2
          go_quiet (fail)
          go_wp2
          exact ⟨⟨i + 1, by omega, rfl, by rw [HS.out], below_both hB (below_drewN _ _ _)⟩, by simp [intOf]; omega⟩
    · obtain rfl : i = n := by omega
      have hic : decide ((i : Int) < (i : Int)) = false := by simp
      obtain ⟨w7, rfl⟩ : ∃ wo, wo = wr := ⟨_, rfl⟩
      clear hlt
      cases hok : OK i
      · as_aux_lemma =>
        have hE : EE = 4 := by rw [HEE.out, hok, if_neg (by decide)]
        subst hE
        rcases hx1 with ⟨h, -⟩ | ⟨-, rfl, rfl, rfl, rfl, rfl⟩
        · exact absurd h (by decide)
        rcases hx2 with ⟨h, -⟩ | ⟨-, rfl, rfl, rfl, rfl, rfl⟩
        · exact absurd h (by decide)
        have d2 := (G1.behind hB).cell (i := 2) rfl
        have e2 := (G2.behind hB).cell (i := 2) rfl
        clear hok
        go_wp2
        go_ret
        exact ⟨rfl, below_both B hB⟩
      · as_aux_lemma =>
        have hE : EE = 0 := by rw [HEE.out, hok, if_pos rfl]
        subst hE
        rcases hx1 with ⟨-, rfl, rfl, hq1, hN1⟩ | ⟨h, -⟩
        case inr => exact absurd rfl h
        replace hq1 := hq1.symm
        subst hq1
        rcases hx2 with ⟨-, rfl, rfl, hq2, hN2⟩ | ⟨h, -⟩
        case inr => exact absurd rfl h
        replace hq2 := hq2.symm
        subst hq2
        obtain ⟨hI1, hI2⟩ := HID.out hok
        have HSW2 := Lib.hid (HSW.out hok)
        have HI := Lib.hid (And.intro hI1 hI2)
        replace G := G.behind hB
        replace G1 := G1.behind hB
        replace G2 := G2.behind hB
        have A1 := (hN1.behind hB).arg
        have A2 := (hN2.behind hB).arg
        have A0 := HAA.out.behind (below_both B hB)
        have HA := Lib.hid (And.intro A0 (And.intro A1 A2))
        have HGG := Lib.hid (And.intro G (And.intro G1 G2))
        have HB7 := Lib.hid (below_both B hB)
        have c0 := G.cell (i := 0) rfl
        have c1 := G.cell (i := 1) rfl
        have c2 := G.cell (i := 2) rfl
        obtain ⟨bx, GX⟩ := mbox w7 #[.int .i64 (R : Int), .int .i64 (C : Int), .slice a m cap] 24 _ rfl
        have hgz := Lib.hid (And.intro G.lt (And.intro G1.lt G2.lt))
        clear hok hI1 hI2 HID HSW hN1 hN2 A0 A1 A2 HEE HOKS HOK0 G G1 G2
        have hrd0 : ∃ S, RdAt S (w7.alloc (.cells #[.int .i64 (R : Int), .int .i64 (C : Int), .slice a m cap] 24)) (.slice a m cap) (LA xs 0) ∧ S < (w7.alloc (.cells #[.int .i64 (R : Int), .int .i64 (C : Int), .slice a m cap] 24)).heap.size ∧ S ≠ w7.heap.size := by
          rw [HL0.out]
          obtain ⟨S, h1, h2⟩ := HA.out.1
          exact ⟨S, h2.kept (bx.block S h1), by have := bx.size; omega, by omega⟩
        have HRD0 := Lib.hid hrd0
        clear hrd0
        go_wp2
        generalize w7.alloc (.cells #[.int .i64 (R : Int), .int .i64 (C : Int), .slice a m cap] 24) = w8 at *
        go_loopw [12] (fun z wr => ∃ (j : Nat) (b : Option Addr) (cc : Nat), j ≤ i ∧ z = .int .i64 j ∧ Ms wr w7.heap.size #[.int .i64 (R : Int), .int .i64 (C : Int), .slice b m cc] 24 ∧ (∃ S, RdAt S wr (.slice b m cc) (LA xs j) ∧ S < wr.heap.size ∧ S ≠ w7.heap.size) ∧ Below w7.heap.size w7 wr) (fun z _ => i - (intOf z).toNat)
        case atStart => exact ⟨0, a, cap, Nat.zero_le _, rfl, GX, HRD0.out, bx⟩
        case round =>
          clear c0 c1 c2 GX HRD0 bx
          obtain ⟨j, b, cc, hj, rfl, KX, ⟨S4, hr4, hs4, hn4⟩, hB4⟩ := hrel
          have d0 := KX.cell (i := 0) rfl
          have d1 := KX.cell (i := 1) rfl
          have d2 := KX.cell (i := 2) rfl
          by_cases hlt : j < i
          · as_aux_lemma =>
            have hjc : decide ((j : Int) < (i : Int)) = true := decide_eq_true (by omega)
            have e5 : IntKind.i64.wrap ((j : Int) + 1) = ((j + 1 : Nat) : Int) := by rw [Int.natCast_add]; exact IntWalk.i64_in _ (by omega)
            have hlim : (j : Int) < (i : Int) := by omega
            obtain ⟨off, rfl, kc⟩ := HZ.out wr (below_both HB7.out hB4) j hlt
            have HS := Lib.hid (HSW2.out j hlt wr.drew b cc ⟨S4, hs4, hr4⟩)
            have HK4 := Lib.hid KX
            have HB4 := Lib.hid hB4
            clear hr4 hs4 hn4 hB4 KX
            generalize zat zs j = zz at *
            go_wp2
            go_region_with (go_at_call 9; (refine (HS.out).mono ?_); rintro e w9 ⟨b5, c5, rfl, hN5, bz⟩; have KX := HK4.out.drew.behind bz; have f0 := KX.f 0; have f1 := KX.f 1; have f2 := KX.f 2; have g0 := KX.cell (i := 0) rfl; have g1 := KX.cell (i := 1) rfl; have g2 := KX.cell (i := 2) rfl)
            all_goals
              go_wp2
              refine ⟨⟨j + 1, b5, c5, by omega, rfl, ex_put3 KX, ?_, ?_⟩, by simp [intOf]; omega⟩
              · obtain ⟨S, h1, h2, h3⟩ := hN5
                have hne : S ≠ w7.heap.size := by
                  rcases h3 with h3 | h3
                  · simp only [Value.slice.injEq] at h3
                    have := HM0.out
                    omega
                  · have := HK4.out.lt
                    have : wr.heap.size ≤ S := h3
                    omega
                exact ⟨S, h1.kept (heap_ex3 hne), by simpa using h2, hne⟩
              · exact (below_both HB4.out.drew bz).put3 (Nat.le_refl _) _ _ _
          · obtain rfl : j = i := by omega
            have hjc : decide ((j : Int) < (j : Int)) = false := by simp
            obtain ⟨w9, rfl⟩ : ∃ wo, wo = wr := ⟨_, rfl⟩
            obtain ⟨hz1, hz2, hz3⟩ := hgz.out
            have K0 := HGG.out.1.below hB4 hz1
            have K1 := HGG.out.2.1.below hB4 hz2
            have K2 := HGG.out.2.2.below hB4 hz3
            have HXA : Hid (Arg w9 (.slice b m cc) (LA xs j)) := Lib.hid ⟨S4, hs4, hr4⟩
            have HA1 := Lib.hid (HA.out.2.1.behind hB4)
            have HA2 := Lib.hid (HA.out.2.2.behind hB4)
            have HA0 := Lib.hid (HA.out.1.behind hB4)
            have B := below_both HB7.out hB4
            clear hr4 hs4 hn4 hB4 hz1 hz2 hz3 d0 d1 d2
            have d0 := K1.cell (i := 0) rfl
            have d1 := K1.cell (i := 1) rfl
            have d2 := K1.cell (i := 2) rfl
            go_wp2_with fail
            refine (HBKL.out _ _ _ _ B HA1.out).mono ?_
            rintro e w10 ⟨⟨ra3, ca3, ba3, qa3, ka3, rfl, hx3⟩, bz⟩
            rcases hx3 with ⟨-, rfl, rfl, hq3, hN3⟩ | ⟨h, -⟩
            case inr => exact absurd rfl h
            replace hq3 := hq3.symm
            subst hq3
            rw [HI.out.1] at hN3
            obtain ⟨b9, G3⟩ := mbox w10 #[.int .i64 (R : Int), .int .i64 (C : Int), .slice ba3 m ka3] 24 _ rfl
            have bzz := below_both bz b9
            replace K0 := K0.behind bzz
            replace K1 := K1.behind bzz
            replace K2 := K2.behind bzz
            replace KX := KX.behind bzz
            replace B := below_both B bzz
            replace HXA := Lib.hid (HXA.out.behind bzz)
            replace HA1 := Lib.hid (HA1.out.behind bzz)
            replace HA2 := Lib.hid (HA2.out.behind bzz)
            replace HA0 := Lib.hid (HA0.out.behind bzz)
            have HA3 := Lib.hid (hN3.behind b9).arg
            clear bz b9 bzz hN3 d0 d1 d2
            have d0 := K2.cell (i := 0) rfl
            have d1 := K2.cell (i := 1) rfl
            have d2 := K2.cell (i := 2) rfl
            go_wp2_with fail
            generalize w10.alloc (.cells #[.int .i64 (R : Int), .int .i64 (C : Int), .slice ba3 m ka3] 24) = w11 at *
            refine (HAPL.out _ _ _ _ B HA2.out).mono ?_
            rintro e w12 ⟨⟨ra4, ca4, ba4, qa4, ka4, rfl, hx4⟩, bz⟩
            rcases hx4 with ⟨-, rfl, rfl, hq4, hN4⟩ | ⟨h, -⟩
            case inr => exact absurd rfl h
            replace hq4 := hq4.symm
            subst hq4
            rw [HI.out.2] at hN4
            obtain ⟨b9, G4⟩ := mbox w12 #[.int .i64 (R : Int), .int .i64 (C : Int), .slice ba4 m ka4] 24 _ rfl
            have bzz := below_both bz b9
            replace K0 := K0.behind bzz
            replace K1 := K1.behind bzz
            replace KX := KX.behind bzz
            replace G3 := G3.behind bzz
            replace B := below_both B bzz
            replace HXA := Lib.hid (HXA.out.behind bzz)
            replace HA1 := Lib.hid (HA1.out.behind bzz)
            replace HA3 := Lib.hid (HA3.out.behind bzz)
            replace HA0 := Lib.hid (HA0.out.behind bzz)
            have HA4 := Lib.hid (hN4.behind b9).arg
            clear bz b9 bzz hN4 d0 d1 d2 K2 HA2
            have x0 := KX.cell (i := 0) rfl
            have x1 := KX.cell (i := 1) rfl
            have x2 := KX.cell (i := 2) rfl
            have d0 := K1.cell (i := 0) rfl
            have d1 := K1.cell (i := 1) rfl
            have d2 := K1.cell (i := 2) rfl
            obtain ⟨u1, u2, u3, u4⟩ := HLN.out
            go_wp2_with fail
            generalize w12.alloc (.cells #[.int .i64 (R : Int), .int .i64 (C : Int), .slice ba4 m ka4] 24) = w13 at *
            refine (HSM.out _ _ _ _ _ _ (u1 j) HXA.out HA1.out).mono ?_
            rintro e w14 ⟨rfl, bz⟩
            replace K0 := K0.behind bz
            replace G3 := G3.behind bz
            replace G4 := G4.behind bz
            replace B := below_both B bz
            have A0 := HA0.out.behind bz
            have A3 := HA3.out.behind bz
            have A4 := HA4.out.behind bz
            clear x0 x1 x2 d0 d1 d2 bz KX K1
            have x0 := G3.cell (i := 0) rfl
            have x1 := G3.cell (i := 1) rfl
            have x2 := G3.cell (i := 2) rfl
            have d0 := K0.cell (i := 0) rfl
            have d1 := K0.cell (i := 1) rfl
            have d2 := K0.cell (i := 2) rfl
            go_wp2_with fail
            refine (HSM.out _ _ _ _ _ _ u3 A3 A0).mono ?_
            rintro e w15 ⟨rfl, bz⟩
            replace K0 := K0.behind bz
            replace G4 := G4.behind bz
            replace B := below_both B bz
            replace A0 := A0.behind bz
            replace A4 := A4.behind bz
            clear x0 x1 x2 d0 d1 d2 bz
            have x0 := G4.cell (i := 0) rfl
            have x1 := G4.cell (i := 1) rfl
            have x2 := G4.cell (i := 2) rfl
            have d0 := K0.cell (i := 0) rfl
            have d1 := K0.cell (i := 1) rfl
            have d2 := K0.cell (i := 2) rfl
            go_wp2_with fail
            refine (HSM.out _ _ _ _ _ _ u3 A4 A0).mono ?_
            rintro e w16 ⟨rfl, bz⟩
            go_wp2
            go_ret
            exact ⟨rfl, below_both B bz⟩
theorem pivotBack_calls {R C : Int} {m : Nat} {a : Option Addr} {cap : Nat} {v : Value} {xs : List Nat} {zs : List Int} {w : World} (hA : Arg w (.slice a m cap) xs) (hZ : ArgK .i64 w v zs) (hzl : zs.length ≤ 1000000000000000000) :
    Calls Try.prog 4 #[.agg #[.int .i64 R, .int .i64 C, .slice a m cap], v] w fun e W' => e = .returned (.bool true) ∧ Below w.heap.size w W' := by
  obtain ⟨av, cv, rfl⟩ := hZ.slice
  cases hm : mayM R C m
  · exact pivotBack_no hA hZ hzl hm
  · obtain ⟨q1, q2, q3, q4, q5⟩ := mayM_facts hm
    obtain ⟨R, rfl⟩ : ∃ r : Nat, R = r := ⟨R.toNat, by omega⟩
    obtain ⟨C, rfl⟩ : ∃ c : Nat, C = c := ⟨C.toNat, by omega⟩
    exact pivotBack_yes hA hZ hzl hm
end Go.Proofs.Ytjljmccdlkdgoaa
