/- winograd: multiply, whatever the sides. -/
import Derived.Test.YtjapilpjahhimaaWiMul
import Derived.Test.YtjapilpjahhimaaGeSpec
import Derived.Test.YtjapilpjahhimaaGeOne
namespace Go.Proofs.Ytjapilpjahhimaa
open Go.RowKit Go.Shelf
set_option maxRecDepth 100000 in
set_option maxHeartbeats 8000000 in
theorem wi_mulS {L : Nat → Nat → Prop} {X : Nat → Prop} {b0 g s n cut p q r u h S1 B1 N1 cap1 O1 T1 S2 B2 N2 cap2 O2 T2 S3 B3 N3 cap3 O3 T3 : Nat} {m : Nat → Nat → Nat} {w : World}
    (hs : St L X b0 g s n u h m w) (h1 : (Prt.mk S1 B1 N1 cap1 O1 p r T1).ok L) (h2 : (Prt.mk S2 B2 N2 cap2 O2 p q T2).ok L) (h3 : (Prt.mk S3 B3 N3 cap3 O3 q r T3).ok L) (hf : fastN p q r cut = false) (hq : 0 < q) (hX : X S1) (dA : Dis (Prt.mk S2 B2 N2 cap2 O2 p q T2) (Prt.mk S1 B1 N1 cap1 O1 p r T1)) (dB : Dis (Prt.mk S3 B3 N3 cap3 O3 q r T3) (Prt.mk S1 B1 N1 cap1 O1 p r T1)) :
    Calls Try.prog 55 #[.agg #[.pointer (some ⟨g, 0, none⟩), .int .i64 (cut : Int)], .agg #[.int .i64 (p : Int), .int .i64 (r : Int), .int .i64 (T1 : Int), .int .i64 (O1 : Int), .slice (some ⟨S1, B1, none⟩) N1 cap1], .agg #[.int .i64 (p : Int), .int .i64 (q : Int), .int .i64 (T2 : Int), .int .i64 (O2 : Int), .slice (some ⟨S2, B2, none⟩) N2 cap2], .agg #[.int .i64 (q : Int), .int .i64 (r : Int), .int .i64 (T3 : Int), .int .i64 (O3 : Int), .slice (some ⟨S3, B3, none⟩) N3 cap3]] w fun e W' => ∃ (ok : Bool) (m' : Nat → Nat → Nat), e = .returned (.bool ok) ∧ St L X b0 g s n u h m' W' ∧ Only (Prt.mk S1 B1 N1 cap1 O1 p r T1) m m' ∧
      (ok = true → ∀ i j, i < p → j < r → (Prt.mk S1 B1 N1 cap1 O1 p r T1).get m' i j = dotN ((Prt.mk S2 B2 N2 cap2 O2 p q T2).get m) ((Prt.mk S3 B3 N3 cap3 O3 q r T3).get m) q i j) ∧ (ok = false → ∃ i j, i < p ∧ j < r ∧ 2 ≤ cls (dotN ((Prt.mk S2 B2 N2 cap2 O2 p q T2).get m) ((Prt.mk S3 B3 N3 cap3 O3 q r T3).get m) q i j)) ∧ Kq X g w W' := by
  suffices HPOST : ∀ POST : Ending → World → Prop, (∀ (ok : Bool) (m' : Nat → Nat → Nat) (W' : World), (St L X b0 g s n u h m' W' ∧ Only (Prt.mk S1 B1 N1 cap1 O1 p r T1) m m' ∧
      (ok = true → ∀ i j, i < p → j < r → (Prt.mk S1 B1 N1 cap1 O1 p r T1).get m' i j = dotN ((Prt.mk S2 B2 N2 cap2 O2 p q T2).get m) ((Prt.mk S3 B3 N3 cap3 O3 q r T3).get m) q i j) ∧ (ok = false → ∃ i j, i < p ∧ j < r ∧ 2 ≤ cls (dotN ((Prt.mk S2 B2 N2 cap2 O2 p q T2).get m) ((Prt.mk S3 B3 N3 cap3 O3 q r T3).get m) q i j)) ∧ Kq X g w W') → POST (.returned (.bool ok)) W') →
      Calls Try.prog 55 #[.agg #[.pointer (some ⟨g, 0, none⟩), .int .i64 (cut : Int)], .agg #[.int .i64 (p : Int), .int .i64 (r : Int), .int .i64 (T1 : Int), .int .i64 (O1 : Int), .slice (some ⟨S1, B1, none⟩) N1 cap1], .agg #[.int .i64 (p : Int), .int .i64 (q : Int), .int .i64 (T2 : Int), .int .i64 (O2 : Int), .slice (some ⟨S2, B2, none⟩) N2 cap2], .agg #[.int .i64 (q : Int), .int .i64 (r : Int), .int .i64 (T3 : Int), .int .i64 (O3 : Int), .slice (some ⟨S3, B3, none⟩) N3 cap3]] w POST from HPOST _ (fun ok m' W' hh => ⟨ok, m', rfl, hh⟩)
  intro POST HP
  have HPH := Lib.hid HP
  have HFA := Lib.hid (fun W => wi_fast (m := p) (k := q) (n := r) (c := cut) (w := W))
  rw [hf] at HFA
  have HD := Lib.hid (fun W (hst : St L X b0 g s n u h m W) => wi_dots0 hst h1 h2 h3 hq hX dA dB)
  have HS0 := Lib.hid hs
  obtain ⟨B0, G0, G1, hw⟩ := vboxm w #[.pointer (some ⟨g, 0, none⟩), .int .i64 (cut : Int)] #[.int .i64 (p : Int), .int .i64 (r : Int), .int .i64 (T1 : Int), .int .i64 (O1 : Int), .slice (some ⟨S1, B1, none⟩) N1 cap1] 79 82 _ rfl
  obtain ⟨j2, G2⟩ := mbox ((w.alloc (.cells #[.pointer (some ⟨g, 0, none⟩), .int .i64 (cut : Int)] 79)).alloc (.cells #[.int .i64 (p : Int), .int .i64 (r : Int), .int .i64 (T1 : Int), .int .i64 (O1 : Int), .slice (some ⟨S1, B1, none⟩) N1 cap1] 82)) #[.int .i64 (p : Int), .int .i64 (q : Int), .int .i64 (T2 : Int), .int .i64 (O2 : Int), .slice (some ⟨S2, B2, none⟩) N2 cap2] 82 _ rfl
  replace G0 := G0.behind j2
  replace G1 := G1.behind j2
  replace B0 := below_both B0 j2
  obtain ⟨j3, G3⟩ := mbox (((w.alloc (.cells #[.pointer (some ⟨g, 0, none⟩), .int .i64 (cut : Int)] 79)).alloc (.cells #[.int .i64 (p : Int), .int .i64 (r : Int), .int .i64 (T1 : Int), .int .i64 (O1 : Int), .slice (some ⟨S1, B1, none⟩) N1 cap1] 82)).alloc (.cells #[.int .i64 (p : Int), .int .i64 (q : Int), .int .i64 (T2 : Int), .int .i64 (O2 : Int), .slice (some ⟨S2, B2, none⟩) N2 cap2] 82)) #[.int .i64 (q : Int), .int .i64 (r : Int), .int .i64 (T3 : Int), .int .i64 (O3 : Int), .slice (some ⟨S3, B3, none⟩) N3 cap3] 82 _ rfl
  replace G0 := G0.behind j3
  replace G1 := G1.behind j3
  replace G2 := G2.behind j3
  replace B0 := below_both B0 j3
  simp only [World.size_alloc] at G2 G3
  have c0 := G2.cell (i := 0) rfl
  have c1 := G2.cell (i := 1) rfl
  have c2 := G2.cell (i := 2) rfl
  have c3 := G2.cell (i := 3) rfl
  have c4 := G2.cell (i := 4) rfl
  have e0 := G3.cell (i := 0) rfl
  have e1 := G3.cell (i := 1) rfl
  have e2 := G3.cell (i := 2) rfl
  have e3 := G3.cell (i := 3) rfl
  have e4 := G3.cell (i := 4) rfl
  have g1 := G0.cell (i := 1) rfl
  have d0 := G1.cell (i := 0) rfl
  have d1 := G1.cell (i := 1) rfl
  have d2 := G1.cell (i := 2) rfl
  have d3 := G1.cell (i := 3) rfl
  have d4 := G1.cell (i := 4) rfl
  clear hs h1 h2 h3 hf hX dA dB hw j2 j3 HP
  go_enter Try.func55, Try.ntmps55
  go_wp2_with fail
  generalize (((w.alloc (.cells #[.pointer (some ⟨g, 0, none⟩), .int .i64 (cut : Int)] 79)).alloc (.cells #[.int .i64 (p : Int), .int .i64 (r : Int), .int .i64 (T1 : Int), .int .i64 (O1 : Int), .slice (some ⟨S1, B1, none⟩) N1 cap1] 82)).alloc (.cells #[.int .i64 (p : Int), .int .i64 (q : Int), .int .i64 (T2 : Int), .int .i64 (O2 : Int), .slice (some ⟨S2, B2, none⟩) N2 cap2] 82)).alloc (.cells #[.int .i64 (q : Int), .int .i64 (r : Int), .int .i64 (T3 : Int), .int .i64 (O3 : Int), .slice (some ⟨S3, B3, none⟩) N3 cap3] 82) = W0 at *
  refine (HFA.out _).mono ?_
  rintro e w1 ⟨rfl, rfl⟩
  go_wp2_with fail
  refine (HD.out _ (HS0.out.behind B0)).mono ?_
  rintro e w2 ⟨ok, m', rfl, t1, t2, t3, t4, t5⟩
  have HE := Lib.hid (And.intro t1 (And.intro t2 (And.intro t3 (And.intro t4 ((Kq.of B0).trans t5)))))
  clear t1 t2 t3 t4 t5
  go_wp2
  exact HPH.out ok m' _ HE.out
theorem mul_spec {L : Nat → Nat → Prop} {X : Nat → Prop} {b0 g s n cut : Nat} (hcut : 1 ≤ cut) (hXs : X s) (hL : ∀ o, o < n → L s o) : ∀ p q r, 0 < p → 0 < q → 0 < r → MulSpec L X b0 g s n cut p q r := by
  intro p
  induction p using Nat.strongRecOn with
  | _ p ih =>
    intro q r hp hq hr c a b m W u h hs hc ha hb e1 e2 e3 e4 e5 e6 hX dA dB fA fB fC hn
    obtain ⟨S1, B1, N1, cap1, O1, R1, C1, T1⟩ := c
    obtain ⟨S2, B2, N2, cap2, O2, R2, C2, T2⟩ := a
    obtain ⟨S3, B3, N3, cap3, O3, R3, C3, T3⟩ := b
    dsimp only at e1 e2 e3 e4 e5 e6 hX
    replace e1 := e1.symm
    replace e2 := e2.symm
    replace e3 := e3.symm
    replace e4 := e4.symm
    replace e5 := e5.symm
    replace e6 := e6.symm
    subst e1 e2 e3 e4 e5 e6
    cases hf : fastN p q r cut
    · refine (wi_mulS (cut := cut) hs hc ha hb hf hq hX dA dB).mono ?_
      rintro e W' ⟨ok, m', rfl, k1, k2, k3, k4, k5⟩
      refine ⟨ok, m', h, rfl, k1, fun S o hcS _ => k2 S o hcS, fun hk i j hi hj => ?_, fun hk => ?_, Nat.le_refl _, Nat.le_max_left _ _, k5⟩
      · rw [sevN_slow hf]; exact k3 hk i j hi hj
      · rw [sevN_slow hf]; exact k4 hk
    · obtain ⟨f1, f2, f3⟩ := fastN_iff.1 hf
      have hM := ih (p / 2) (by omega) (q / 2) (r / 2) (by omega) (by omega) (by omega)
      exact wi_mulF hs hc ha hb hf hcut hX hXs hn hM hL dA dB fA fB fC
end Go.Proofs.Ytjapilpjahhimaa

/- winograd: what Mul stands on: memory as multiply wants it. -/
namespace Go.Proofs.Ytjapilpjahhimaa
open Go.RowKit Go.Shelf
/-- a matrix that is told, or an error -/
def Told (R C : Int) (m : Nat) (E : Int) (L : List Nat) (n : Nat) (e : Ending) (W' : World) : Prop :=
  ∃ (r c : Int) (b : Option Addr) (q cc : Nat), e = .returned (.tuple #[.agg #[.int .i64 r, .int .i64 c, .slice b q cc], .int .i64 E]) ∧ ((E = 0 ∧ r = R ∧ c = C ∧ q = m ∧ New n W' (.slice b q cc) L) ∨ (E ≠ 0 ∧ r = 0 ∧ c = 0 ∧ q = 0 ∧ b = none ∧ cc = 0))
theorem Told.lower {R C : Int} {m : Nat} {E : Int} {L : List Nat} {n n' : Nat} {e : Ending} {W' : World} (h : Told R C m E L n e W') (hn : n' ≤ n) : Told R C m E L n' e W' := by
  obtain ⟨r, c, b, q, cc, he, h⟩ := h
  exact ⟨r, c, b, q, cc, he, h.imp (fun ⟨h1, h2, h3, h4, h5⟩ => ⟨h1, h2, h3, h4, h5.lower hn⟩) id⟩
theorem Told.put3 {R C : Int} {m : Nat} {E : Int} {L : List Nat} {n : Nat} {r c : Int} {b : Option Addr} {q cc : Nat} {W' : World} (h : (E = 0 ∧ r = R ∧ c = C ∧ q = m ∧ New n W' (.slice b q cc) L) ∨ (E ≠ 0 ∧ r = 0 ∧ c = 0 ∧ q = 0 ∧ b = none ∧ cc = 0)) {g : Nat} (hg : g < n) (x y z : Value) :
    Told R C m E L n (.returned (.tuple #[.agg #[.int .i64 r, .int .i64 c, .slice b q cc], .int .i64 E])) (((W'.setCell ⟨g, 0, none⟩ x).setCell ⟨g, 1, none⟩ y).setCell ⟨g, 2, none⟩ z) :=
  ⟨r, c, b, q, cc, rfl, h.imp (fun ⟨h1, h2, h3, h4, h5⟩ => ⟨h1, h2, h3, h4, h5.put3 hg _ _ _⟩) id⟩
/-- the word at a place -/
def wordAt (W : World) (S o : Nat) : Nat := match W.cell? ⟨S, o, none⟩ with
  | some (.int .u64 z) => if z.toNat < 18446744073709551616 then z.toNat else 0
  | _ => 0
theorem wordAt_lt (W : World) (S o : Nat) : wordAt W S o < 18446744073709551616 := by
  unfold wordAt
  split
  · split
    · assumption
    · decide
  · decide
theorem wordAt_eq {W : World} {S o x : Nat} (h : W.cell? ⟨S, o, none⟩ = some (.int .u64 (x : Int))) (hx : x < 18446744073709551616) : wordAt W S o = x := by
  unfold wordAt
  rw [h]
  simp [hx]
/-- where an argument's words lie -/
def ArgAt (W : World) (S off : Nat) (xs : List Nat) : Prop := S < W.heap.size ∧ ∀ k, k < xs.length → W.cell? ⟨S, off + k, none⟩ = some (.int .u64 (lim xs k : Int))
theorem ArgAt.behind {W W' : World} {S off : Nat} {xs : List Nat} (h : ArgAt W S off xs) (hb : Below W.heap.size W W') : ArgAt W' S off xs :=
  ⟨Nat.lt_of_lt_of_le h.1 hb.size, fun k hk => (hb.cell (p := ⟨S, off + k, none⟩) h.1).trans (h.2 k hk)⟩
/-- a matrix's words as a function of places -/
def matN (C : Nat) (xs : List Nat) : Fn := fun i j => lim xs (i * C + j)
def prodS (cut p q r : Nat) (xs ys : List Nat) : List Nat := rowV (p * r) fun k => sevN cut p q r (matN q xs) (matN r ys) (k / r) (k % r)
section
variable {W : World} {b0 g s n u h S1 S2 o2 S3 o3 p q r : Nat} {xs ys ws : List Nat}
def liveM (s n S1 l1 S2 o2 l2 S3 o3 l3 : Nat) (S o : Nat) : Prop := (S = S1 ∧ o < l1) ∨ (S = S2 ∧ o2 ≤ o ∧ o < o2 + l2) ∨ (S = S3 ∧ o3 ≤ o ∧ o < o3 + l3) ∨ (S = s ∧ o < n)
theorem st_of {k1 : Nat} {cc : Nat} {zs : List Nat} (hA : ArgAt W S2 o2 xs) (hB : ArgAt W S3 o3 ys) (lx : Low 18446744073709551616 xs) (ly : Low 18446744073709551616 ys) (hC : OwnK .u64 49 b0 W (.slice (some ⟨S1, 0, none⟩) k1 cc) (zn zs)) (hz : zs.length = k1) (lz : Low 18446744073709551616 zs) (A : AN b0 W g s n u h ws) (hsg : S1 ≠ s ∧ S1 ≠ g) (h2 : S2 ≠ s ∧ S2 ≠ g) (h3 : S3 ≠ s ∧ S3 ≠ g) (lw : Low 18446744073709551616 ws) :
    St (liveM s n S1 k1 S2 o2 xs.length S3 o3 ys.length) (fun S => S = S1 ∨ S = s) b0 g s n u h (wordAt W) W := by
  have hlen : (zn zs).length = k1 := by rw [zn_length]; exact hz
  refine ⟨⟨fun S o hl => ?_, wordAt_lt W, fun S hS => ?_, fun S o hl => ?_⟩, ⟨ws, A⟩, fun S hS => ?_⟩
  · rcases hl with ⟨rfl, ho⟩ | ⟨rfl, ho, ho2⟩ | ⟨rfl, ho, ho2⟩ | ⟨rfl, ho⟩
    · have hc := hC.cell (j := o) (by omega)
      rw [zn_at (by omega)] at hc
      rw [wordAt_eq hc (lim_lt lz (by decide) o)]
      exact hc
    · have hc := hA.2 (o - o2) (by omega)
      rw [show o2 + (o - o2) = o by omega] at hc
      rw [wordAt_eq hc (lim_lt lx (by decide) _)]
      exact hc
    · have hc := hB.2 (o - o3) (by omega)
      rw [show o3 + (o - o3) = o by omega] at hc
      rw [wordAt_eq hc (lim_lt ly (by decide) _)]
      exact hc
    · have hc := A.row.cell (j := o) (by rw [A.len]; exact ho)
      rw [wordAt_eq hc (lim_lt lw (by decide) o)]
      exact hc
  · rcases hS with rfl | rfl
    · unfold OwnK World.ownsRow at hC
      rcases hC.2 with ⟨e, _⟩ | ⟨g', cap', cur, e, hb, hg, hc1, hc2, hc3, hc4⟩
      · simp at e
      · simp only [Value.slice.injEq, Option.some.injEq, Addr.mk.injEq, and_true] at e
        obtain ⟨rfl, -, -⟩ := e
        exact ⟨cur, hg⟩
    · exact ⟨_, A.row⟩
  · rcases hl with ⟨rfl, ho⟩ | ⟨rfl, ho, ho2⟩ | ⟨rfl, ho, ho2⟩ | ⟨rfl, ho⟩
    · exact (own_cap hC).2.2
    · exact hA.1
    · exact hB.1
    · exact A.row.lt
  · rcases hS with rfl | rfl
    · exact hsg.2
    · exact A.ne.symm
end
end Go.Proofs.Ytjapilpjahhimaa

/- winograd: Mul, where a product is told. -/
namespace Go.Proofs.Ytjapilpjahhimaa
open Go.RowKit Go.Shelf
theorem prt_ok {L : Nat → Nat → Prop} {S B N cap R C : Nat} (hN : N = R * C) (hR : R ≤ 64) (hC : C ≤ 64) (hc : N ≤ cap) (hl : ∀ o, o < N → L S (B + o)) : (Prt.mk S B N cap 0 R C C).ok L := by
  have h1 : R * C ≤ 64 * 64 := Nat.mul_le_mul hR hC
  refine ⟨hR, hC, Nat.le_refl _, hC, Nat.zero_le _, hc, by show N ≤ 1048576; omega, fun h0 _ => ?_, fun i j hi hj => ?_⟩
  · have h0' : 0 < R := h0
    have := row_step (T := C) (show R - 1 < R by omega)
    show 0 + (R - 1) * C + C ≤ N
    omega
  · have hi' : i < R := hi
    have hj' : j < C := hj
    have := row_step (T := C) hi'
    show L S (B + (0 + i * C + j))
    exact hl _ (by omega)
theorem ArgAt.kp {W W' : World} {S off g s : Nat} {xs : List Nat} (h : ArgAt W S off xs) (k : Kp g s W W') (h1 : S ≠ s) (h2 : S ≠ g) : ArgAt W' S off xs := by
  have hh := k.keep S h.1 h2 h1
  refine ⟨Nat.lt_of_lt_of_le h.1 k.size, fun i hi => ?_⟩
  have : W'.cell? ⟨S, off + i, none⟩ = W.cell? ⟨S, off + i, none⟩ := by simp only [World.cell?]; rw [hh]
  rw [this]
  exact h.2 i hi
theorem pl_divW {C i j : Nat} (h : j < C) : (i * C + j) / C = i ∧ (i * C + j) % C = j :=
  ⟨by rw [Nat.mul_comm, Nat.mul_add_div (by omega), Nat.div_eq_of_lt h, Nat.add_zero], by rw [Nat.mul_comm, Nat.mul_add_mod, Nat.mod_eq_of_lt h]⟩
theorem pl_ltW {R C i j : Nat} (hi : i < R) (hj : j < C) : i * C + j < R * C := by
  have := row_step (T := C) hi
  omega
def wiE (cut p q r : Nat) (xs ys : List Nat) : Int := if finB (prodS cut p q r xs ys) (p * r) then 0 else 13
theorem wiE_bad {cut p q r : Nat} {xs ys : List Nat} (h : Bad p r (sevN cut p q r (matN q xs) (matN r ys))) : wiE cut p q r xs ys = 13 := by
  obtain ⟨i, j, hi, hj, hb⟩ := h
  unfold wiE
  rw [if_neg]
  intro hf
  have hlt := pl_ltW hi hj
  have := finB_iff.1 hf (i * r + j) hlt
  unfold prodS at this
  rw [rowV_lim _ hlt, (pl_divW hj).1, (pl_divW hj).2] at this
  omega
set_option maxRecDepth 100000 in
set_option maxHeartbeats 32000000 in
theorem wi_mulY {p q r cut b0 g s n u h S2 o2 S3 o3 m1 m2 cap1 cap2 : Nat} {xs ys ws : List Nat} {w : World} (hA : ArgAt w S2 o2 xs) (hB : ArgAt w S3 o3 ys) (la : m1 = xs.length) (lb : m2 = ys.length) (ca : m1 ≤ cap1) (cb : m2 ≤ cap2) (lx : Low 18446744073709551616 xs) (ly : Low 18446744073709551616 ys) (lw : Low 18446744073709551616 ws)
    (fa : finM p q m1 xs = 0) (fb : finM q r m2 ys = 0) (hcut : 1 ≤ cut) (A : AN b0 w g s n u h ws) (h2 : S2 ≠ s ∧ S2 ≠ g) (h3 : S3 ≠ s ∧ S3 ≠ g) (hn : u + needN p q r cut ≤ n) :
    Calls Try.prog 22 #[.agg #[.int .i64 (p : Int), .int .i64 (q : Int), .slice (some ⟨S2, o2, none⟩) m1 cap1], .agg #[.int .i64 (q : Int), .int .i64 (r : Int), .slice (some ⟨S3, o3, none⟩) m2 cap2], .int .i64 (cut : Int), .pointer (some ⟨g, 0, none⟩)] w fun e W' => Told p r (p * r) (wiE cut p q r xs ys) (prodS cut p q r xs ys) w.heap.size e W' ∧ (∃ h' ws', AN b0 W' g s n u h' ws' ∧ h ≤ h' ∧ h' ≤ max h (u + needN p q r cut)) ∧ Kp g s w W' ∧ Io w W' := by
  have hm1 : mayM p q m1 = true := by
    cases hh : mayM (p : Int) q m1
    · unfold finM at fa; rw [hh, if_neg (by decide)] at fa; exact absurd fa (by decide)
    · rfl
  have hm2 : mayM q r m2 = true := by
    cases hh : mayM (q : Int) r m2
    · unfold finM at fb; rw [hh, if_neg (by decide)] at fb; exact absurd fb (by decide)
    · rfl
  obtain ⟨p1, p2, p3, p4, p5⟩ := mayM_iff.1 hm1
  obtain ⟨q1, q2, q3, q4, q5⟩ := mayM_iff.1 hm2
  have hmn1 : m1 = p * q := by rw [← Int.natCast_mul] at p5; omega
  have hmn2 : m2 = q * r := by rw [← Int.natCast_mul] at q5; omega
  have hPR : p * r ≤ 64 * 64 := Nat.mul_le_mul (by omega) (by omega)
  have hPR0 : 0 < p * r := Nat.mul_pos (by omega) (by omega)
  have argOf : ∀ (W : World) (S o m c : Nat) (zs : List Nat), ArgAt W S o zs → m = zs.length → m ≤ c → Arg W (.slice (some ⟨S, o, none⟩) m c) zs := fun W S o m c zs hh e hc => by
    subst e
    exact ⟨S, hh.1, .inr ⟨o, c, rfl, hc, hh.2⟩⟩
  have HF1 : Hid (∀ W, Below w.heap.size w W → _) := Lib.hid (fun W (hb : Below w.heap.size w W) => shape_finite (R := (p : Int)) (C := (q : Int)) (argOf W S2 o2 m1 cap1 xs (hA.behind hb) la ca) lx)
  have HF2 : Hid (∀ W, Below w.heap.size w W → _) := Lib.hid (fun W (hb : Below w.heap.size w W) => shape_finite (R := (q : Int)) (C := (r : Int)) (argOf W S3 o3 m2 cap2 ys (hB.behind hb) lb cb) ly)
  rw [fa] at HF1
  rw [fb] at HF2
  have HND := Lib.hid (fun W => wi_need (m := p) (k := q) (n := r) (c := cut) (w := W) ⟨by omega, by omega⟩ ⟨by omega, by omega⟩ ⟨by omega, by omega⟩ hcut)
  have hnew := fun w => shape_new (R := p) (C := r) w ⟨by omega, by omega⟩ ⟨by omega, by omega⟩
  obtain ⟨PR, hPRe⟩ : ∃ P, P = p * r := ⟨_, rfl⟩
  have HZ0 : Hid ((tab p r fun _ _ => 0).length = PR ∧ Low 18446744073709551616 (tab p r fun _ _ => 0)) := Lib.hid ⟨by rw [tab_length, hPRe], fun x hx => by
    obtain ⟨k, hk, e⟩ := List.getElem_of_mem hx
    rw [tab_length] at hk
    have h0 : 0 < r := by omega
    have e2 := tab_lim (R := p) (C := r) (fun _ _ => 0) (i := k / r) (j := k % r) (Nat.div_lt_of_lt_mul (by rw [Nat.mul_comm]; exact hk)) (Nat.mod_lt _ h0)
    rw [Nat.div_add_mod'] at e2
    have e3 : lim (tab p r fun _ _ => 0) k = x := by unfold lim; rw [List.getElem?_eq_getElem (by rw [tab_length]; exact hk), Option.getD_some, e]
    omega⟩
  rw [← hPRe] at hnew
  have y0 : ∀ w : World, (Instr.index 71 (.agg #[.int .i64 (p : Int), .int .i64 (q : Int), .slice (some ⟨S2, o2, none⟩) m1 cap1, .int .i64 (q : Int), .int .i64 (r : Int), .slice (some ⟨S3, o3, none⟩) m2 cap2]) (.int .i64 0)).run Try.prog w = .ok (.agg #[.int .i64 (p : Int), .int .i64 (q : Int), .slice (some ⟨S2, o2, none⟩) m1 cap1]) w := fun _ => by kernel_rfl
  have y1 : ∀ w : World, (Instr.index 71 (.agg #[.int .i64 (p : Int), .int .i64 (q : Int), .slice (some ⟨S2, o2, none⟩) m1 cap1, .int .i64 (q : Int), .int .i64 (r : Int), .slice (some ⟨S3, o3, none⟩) m2 cap2]) (.int .i64 1)).run Try.prog w = .ok (.agg #[.int .i64 (q : Int), .int .i64 (r : Int), .slice (some ⟨S3, o3, none⟩) m2 cap2]) w := fun _ => by kernel_rfl
  obtain ⟨B0, G1, G2, hw1⟩ := vboxm w #[.int .i64 (p : Int), .int .i64 (q : Int), .slice (some ⟨S2, o2, none⟩) m1 cap1] #[.int .i64 (q : Int), .int .i64 (r : Int), .slice (some ⟨S3, o3, none⟩) m2 cap2] 24 24 _ rfl
  obtain ⟨j3, G3⟩ := mbox ((w.alloc (.cells #[.int .i64 (p : Int), .int .i64 (q : Int), .slice (some ⟨S2, o2, none⟩) m1 cap1] 24)).alloc (.cells #[.int .i64 (q : Int), .int .i64 (r : Int), .slice (some ⟨S3, o3, none⟩) m2 cap2] 24)) #[.int .i64 0, .int .i64 0, .slice none 0 0] 24 _ rfl
  replace G1 := G1.behind j3
  replace G2 := G2.behind j3
  replace B0 := below_both B0 j3
  simp only [World.size_alloc] at G3
  have c0 := G1.cell (i := 0) rfl
  have c1 := G1.cell (i := 1) rfl
  have c2 := G1.cell (i := 2) rfl
  have d0 := G2.cell (i := 0) rfl
  have d1 := G2.cell (i := 1) rfl
  have d2 := G2.cell (i := 2) rfl
  have HIN := Lib.hid (And.intro hA (And.intro hB (And.intro lx (And.intro ly (And.intro lw (And.intro la (And.intro lb (And.intro ca cb))))))))
  have HDM : Hid (1 ≤ p ∧ p ≤ 64 ∧ 1 ≤ q ∧ q ≤ 64 ∧ 1 ≤ r ∧ r ≤ 64 ∧ m1 = p * q ∧ m2 = q * r ∧ PR = p * r) := Lib.hid ⟨by omega, by omega, by omega, by omega, by omega, by omega, hmn1, hmn2, hPRe⟩
  have HAN := Lib.hid A
  have HNE := Lib.hid (And.intro h2 (And.intro h3 (And.intro hn hcut)))
  have HLT : Hid (g < w.heap.size ∧ s < w.heap.size ∧ S2 < w.heap.size ∧ S3 < w.heap.size ∧ b0 ≤ g) := Lib.hid ⟨A.box.lt, A.row.lt, hA.1, hB.1, A.bg⟩
  have hnl : decide (((n : Int) - (u : Int)) < (needN p q r cut : Int)) = false := decide_eq_false (by omega)
  have hPR1 : 0 < PR ∧ PR ≤ 4096 := by omega
  rw [← hPRe]
  obtain ⟨EE, hEE⟩ : ∃ x, x = wiE cut p q r xs ys := ⟨_, rfl⟩
  rw [← hEE]
  have HEE := Lib.hid hEE
  clear hEE
  obtain ⟨nd, hnd⟩ : ∃ x, x = needN p q r cut := ⟨_, rfl⟩
  rw [← hnd] at HND HNE hnl ⊢
  have HNDE := Lib.hid hnd
  clear hA hB la lb ca cb lx ly lw fa fb hcut A h2 h3 hn hm1 hm2 p1 p2 p3 p4 p5 q1 q2 q3 q4 q5 hmn1 hmn2 hPR hPR0 argOf hPRe hw1 j3 hnd
  go_enter Try.func22, Try.ntmps22
  go_wp2
  generalize ((w.alloc (.cells #[.int .i64 (p : Int), .int .i64 (q : Int), .slice (some ⟨S2, o2, none⟩) m1 cap1] 24)).alloc (.cells #[.int .i64 (q : Int), .int .i64 (r : Int), .slice (some ⟨S3, o3, none⟩) m2 cap2] 24)).alloc (.cells #[.int .i64 0, .int .i64 0, .slice none 0 0] 24) = W0 at *
  go_loopw [21] (fun i wr => ∃ (k : Nat) (z : Int), k ≤ 2 ∧ z = k ∧ i = .int .i64 z ∧ Below W0.heap.size W0 wr) (fun i _ => 2 - (intOf i).toNat)
  case atStart => exact ⟨0, 0, by omega, rfl, rfl, Below.refl _ _⟩
  case round =>
    obtain ⟨k, z, hk, hz, rfl, hB⟩ := hrel
    rcases (show k = 0 ∨ k = 1 ∨ k = 2 by omega) with rfl | rfl | rfl
    · as_aux_lemma =>
      obtain rfl : z = 0 := hz
      have HFX := Lib.hid (HF1.out (wr.alloc (.cells #[.int .i64 (p : Int), .int .i64 (q : Int), .slice (some ⟨S2, o2, none⟩) m1 cap1] 24)) (below_both B0 (below_both hB (bel_new wr _))))
      have bA := bel_new wr (.cells #[.int .i64 (p : Int), .int .i64 (q : Int), .slice (some ⟨S2, o2, none⟩) m1 cap1] 24)
      go_wp2_with fail
      refine HFX.out.mono ?_
      rintro e w2 ⟨rfl, b2⟩
      go_wp2
      exact ⟨⟨1, 1, by omega, rfl, rfl, below_both hB (below_both bA b2)⟩, by simp [intOf]⟩
    · as_aux_lemma =>
      obtain rfl : z = 1 := hz
      have HFX := Lib.hid (HF2.out (wr.alloc (.cells #[.int .i64 (q : Int), .int .i64 (r : Int), .slice (some ⟨S3, o3, none⟩) m2 cap2] 24)) (below_both B0 (below_both hB (bel_new wr _))))
      have bA := bel_new wr (.cells #[.int .i64 (q : Int), .int .i64 (r : Int), .slice (some ⟨S3, o3, none⟩) m2 cap2] 24)
      go_wp2_with fail
      refine HFX.out.mono ?_
      rintro e w2 ⟨rfl, b2⟩
      go_wp2
      exact ⟨⟨2, 2, by omega, rfl, rfl, below_both hB (below_both bA b2)⟩, by simp [intOf]⟩
    · obtain rfl : z = 2 := hz
      obtain ⟨w1, rfl⟩ : ∃ wo, wo = wr := ⟨_, rfl⟩
      have BW := below_both B0 hB
      have hmk := ar_mark (HAN.out.behind BW)
      have hrl := ar_release (HAN.out.behind BW) (Nat.le_refl u)
      replace G1 := G1.behind hB
      replace G2 := G2.behind hB
      replace G3 := G3.behind hB
      clear c0 c1 c2 d0 d1 d2 y0 y1 HF1 HF2 B0 hB
      have c0 := G1.cell (i := 0) rfl
      have c1 := G1.cell (i := 1) rfl
      have d0 := G2.cell (i := 0) rfl
      have d1 := G2.cell (i := 1) rfl
      go_wp2_with fail
      refine (HND.out _).mono ?_
      rintro e w2 ⟨rfl, rfl⟩
      go_wp2_with fail
      refine hmk.mono ?_
      rintro e w2 ⟨rfl, rfl⟩
      go_wp2_with fail
      refine hrl.mono ?_
      rintro e w2 ⟨rfl, A2, k2, kb2⟩
      have kp := k2
      replace G1 := k2.ms G1 (by have := HLT.out; omega) (by have := HLT.out; omega)
      replace G2 := k2.ms G2 (by have := HLT.out; omega) (by have := HLT.out; omega)
      replace G3 := k2.ms G3 (by have := HLT.out; omega) (by have := HLT.out; omega)
      have hlf := ar_left A2
      clear hmk hrl c0 c1 d0 d1 k2
      go_wp2_with fail
      refine hlf.mono ?_
      rintro e w3 ⟨rfl, b3⟩
      replace A2 := A2.behind b3
      replace G1 := G1.behind b3
      replace G2 := G2.behind b3
      replace G3 := G3.behind b3
      have c0 := G1.cell (i := 0) rfl
      have d1 := G2.cell (i := 1) rfl
      clear hlf
      go_wp2_with fail
      refine (hnew _).mono ?_
      rintro e w4 ⟨bn, co, rfl, hO, b4⟩
      obtain ⟨so, cg, eg, hso1, hso2⟩ := hO.form (by rw [zn_length, HZ0.out.1]; exact hPR1.1)
      simp only [Value.slice.injEq] at eg
      obtain ⟨rfl, -, -⟩ := eg
      obtain ⟨b5, GX⟩ := mbox w4 #[.int .i64 (p : Int), .int .i64 (r : Int), .slice (some ⟨so, 0, none⟩) PR co] 24 _ rfl
      have b35 := below_both b4 b5
      have b25 := below_both b3 b35
      have HSO : Hid (w.heap.size + 3 ≤ so ∧ so < w4.heap.size) := Lib.hid ⟨by have := G3.lt; omega, hso2⟩
      replace G1 := G1.behind b35
      replace G2 := G2.behind b35
      replace G3 := G3.behind b35
      have A5 := A2.behind b35
      have hkp : Kp g s w (w4.alloc (.cells #[.int .i64 (p : Int), .int .i64 (r : Int), .slice (some ⟨so, 0, none⟩) PR co] 24)) := ⟨Nat.le_trans BW.size (Nat.le_trans kp.size b25.size), fun j hj h1 h2 => (b25.block j (by have := BW.size; have := kp.size; omega)).trans ((kp.keep j (by have := BW.size; omega) h1 h2).trans (BW.block j hj))⟩
      have hA5 : ArgAt (w4.alloc (.cells #[.int .i64 (p : Int), .int .i64 (r : Int), .slice (some ⟨so, 0, none⟩) PR co] 24)) S2 o2 xs := HIN.out.1.kp hkp HNE.out.1.1 HNE.out.1.2
      have hB5 : ArgAt (w4.alloc (.cells #[.int .i64 (p : Int), .int .i64 (r : Int), .slice (some ⟨so, 0, none⟩) PR co] 24)) S3 o3 ys := HIN.out.2.1.kp hkp HNE.out.2.1.1 HNE.out.2.1.2
      have hO5 := hO.below b5
      have hso3 : so ≠ s ∧ so ≠ g := by have := HSO.out; have := HLT.out; omega
      have hb3 : b0 ≤ w3.heap.size := by have := HLT.out; have := G3.lt; have := A2.box.lt; have := BW.size; have := kp.size; have := b3.size; omega
      obtain ⟨w5, hw5⟩ : ∃ v, v = w4.alloc (.cells #[.int .i64 (p : Int), .int .i64 (r : Int), .slice (some ⟨so, 0, none⟩) PR co] 24) := ⟨_, rfl⟩
      rw [← hw5] at G1 G2 G3 GX A5 hkp hA5 hB5 hO5
      have st5 := st_of hA5 hB5 HIN.out.2.2.1 HIN.out.2.2.2.1 (hO5.mono hb3) HZ0.out.1 HZ0.out.2 A5 hso3 HNE.out.1 HNE.out.2.1 HIN.out.2.2.2.2.1
      have HEA : Hid (∀ i j, i < p → j < q → (Prt.mk S2 o2 m1 cap1 0 p q q).get (wordAt w5) i j = matN q xs i j) := Lib.hid (fun i j hi hj => by
        have hlt := pl_ltW hi hj
        have hx : i * q + j < xs.length := by have := HDM.out; have := HIN.out.2.2.2.2.2.1; omega
        show wordAt w5 S2 (o2 + (0 + i * q + j)) = lim xs (i * q + j)
        rw [Nat.zero_add]
        exact wordAt_eq (hA5.2 _ hx) (lim_lt HIN.out.2.2.1 (by decide) _))
      have HEB : Hid (∀ i j, i < q → j < r → (Prt.mk S3 o3 m2 cap2 0 q r r).get (wordAt w5) i j = matN r ys i j) := Lib.hid (fun i j hi hj => by
        have hlt := pl_ltW hi hj
        have hx : i * r + j < ys.length := by have := HDM.out; have := HIN.out.2.2.2.2.2.2.1; omega
        show wordAt w5 S3 (o3 + (0 + i * r + j)) = lim ys (i * r + j)
        rw [Nat.zero_add]
        exact wordAt_eq (hB5.2 _ hx) (lim_lt HIN.out.2.2.2.1 (by decide) _))
      have HMU : Hid (∀ W, St (liveM s n so PR S2 o2 xs.length S3 o3 ys.length) (fun S => S = so ∨ S = s) b0 g s n u h (wordAt w5) W → _) := Lib.hid (fun W hst => mul_spec (cut := cut) HNE.out.2.2.2 (.inr rfl) (fun o ho => .inr (.inr (.inr ⟨rfl, ho⟩))) p q r (by have := HDM.out; omega) (by have := HDM.out; omega) (by have := HDM.out; omega) (Prt.mk so 0 PR co 0 p r r) (Prt.mk S2 o2 m1 cap1 0 p q q) (Prt.mk S3 o3 m2 cap2 0 q r r) (wordAt w5) W u h hst
        (prt_ok (by have := HDM.out; omega) (by have := HDM.out; omega) (by have := HDM.out; omega) (own_cap hO5).1 (fun o ho => .inl ⟨rfl, by omega⟩))
        (prt_ok (by have := HDM.out; omega) (by have := HDM.out; omega) (by have := HDM.out; omega) HIN.out.2.2.2.2.2.2.2.1 (fun o ho => .inr (.inl ⟨rfl, by omega, by have := HIN.out.2.2.2.2.2.1; omega⟩)))
        (prt_ok (by have := HDM.out; omega) (by have := HDM.out; omega) (by have := HDM.out; omega) HIN.out.2.2.2.2.2.2.2.2 (fun o ho => .inr (.inr (.inl ⟨rfl, by omega, by have := HIN.out.2.2.2.2.2.2.1; omega⟩))))
        rfl rfl rfl rfl rfl rfl (.inl rfl) (fun _ _ _ _ _ _ _ _ => .inl (by show S2 ≠ so; have := HSO.out; have := HLT.out; omega)) (fun _ _ _ _ _ _ _ _ => .inl (by show S3 ≠ so; have := HSO.out; have := HLT.out; omega)) (.inl HNE.out.1.1) (.inl HNE.out.2.1.1) (.inl hso3.1) (by have := HNE.out.2.2.1; have := HNDE.out; omega))
      rw [← HNDE.out] at HMU
      dsimp only [Prt.val] at HMU
      simp only [Int.natCast_zero] at HMU
      obtain ⟨gx, hgx⟩ : ∃ v, v = w4.heap.size := ⟨_, rfl⟩
      rw [← hgx] at GX HSO
      have HBX := Lib.hid (And.intro G1 (And.intro G2 (And.intro G3 GX)))
      have HXN : Hid (gx ≠ so ∧ gx ≠ s ∧ gx ≠ g ∧ w.heap.size + 3 ≤ gx) := Lib.hid (by have := HSO.out; have := HLT.out; omega)
      have HMX : Hid (∀ W, Kq (fun S => S = so ∨ S = s) g w5 W → Ms W w.heap.size #[.int .i64 (p : Int), .int .i64 (q : Int), .slice (some ⟨S2, o2, none⟩) m1 cap1] 24 ∧ Ms W (w.heap.size + 1) #[.int .i64 (q : Int), .int .i64 (r : Int), .slice (some ⟨S3, o3, none⟩) m2 cap2] 24 ∧ Ms W (w.heap.size + 1 + 1) #[.int .i64 0, .int .i64 0, .slice none 0 0] 24 ∧ Ms W gx #[.int .i64 (p : Int), .int .i64 (r : Int), .slice (some ⟨so, 0, none⟩) PR co] 24) := Lib.hid (fun W k => by
        have := HSO.out
        have := HLT.out
        have := HXN.out
        exact ⟨k.ms HBX.out.1 (fun hh => by rcases hh with hh | hh <;> omega) (by omega), k.ms HBX.out.2.1 (fun hh => by rcases hh with hh | hh <;> omega) (by omega), k.ms HBX.out.2.2.1 (fun hh => by rcases hh with hh | hh <;> omega) (by omega), k.ms HBX.out.2.2.2 (fun hh => by rcases hh with hh | hh <;> omega) (by omega)⟩)
      have HK : Hid (∀ W, Kq (fun S => S = so ∨ S = s) g w5 W → W.cell? ⟨w.heap.size, 0, none⟩ = some (.int .i64 (p : Int)) ∧ W.cell? ⟨w.heap.size, 1, none⟩ = some (.int .i64 (q : Int)) ∧ W.cell? ⟨w.heap.size, 2, none⟩ = some (.slice (some ⟨S2, o2, none⟩) m1 cap1) ∧ W.cell? ⟨w.heap.size + 1, 0, none⟩ = some (.int .i64 (q : Int)) ∧ W.cell? ⟨w.heap.size + 1, 1, none⟩ = some (.int .i64 (r : Int)) ∧ W.cell? ⟨w.heap.size + 1, 2, none⟩ = some (.slice (some ⟨S3, o3, none⟩) m2 cap2) ∧ W.cell? ⟨gx, 0, none⟩ = some (.int .i64 (p : Int)) ∧ W.cell? ⟨gx, 1, none⟩ = some (.int .i64 (r : Int)) ∧ W.cell? ⟨gx, 2, none⟩ = some (.slice (some ⟨so, 0, none⟩) PR co)) := Lib.hid (fun W k => by
        obtain ⟨x1, x2, -, x4⟩ := HMX.out W k
        exact ⟨x1.cell (i := 0) rfl, x1.cell (i := 1) rfl, x1.cell (i := 2) rfl, x2.cell (i := 0) rfl, x2.cell (i := 1) rfl, x2.cell (i := 2) rfl, x4.cell (i := 0) rfl, x4.cell (i := 1) rfl, x4.cell (i := 2) rfl⟩)
      have HKP := Lib.hid hkp
      have HIO : Hid (Io w w5) := Lib.hid (by rw [hw5]; exact ((Io.of BW).trans (Io.of kb2)).trans (Io.of b25))
      have HCO : Hid (PR ≤ co) := Lib.hid (own_cap hO5).1
      have H35 : Hid (w.heap.size ≤ w5.heap.size) := Lib.hid hkp.size
      clear G1 G2 G3 GX A5 A2 hkp hA5 hB5 hO5 hO hso1 hso2 hso3 hb3 b3 b4 b5 b35 b25 kp BW c0 d1 hnl
      go_upto_region 16 with (fail)
      rw [← hw5, ← hgx]
      clear hw5 hgx
      go_cut [17] from 72 to 81 (fun x wx => ∃ (ok : Bool) (m' : Nat → Nat → Nat) (h' : Nat), x = .bool ok ∧ St (liveM s n so PR S2 o2 xs.length S3 o3 ys.length) (fun S => S = so ∨ S = s) b0 g s n u h' m' wx ∧ (ok = true → ∀ i j, i < p → j < r → (Prt.mk so 0 PR co 0 p r r).get m' i j = sevN cut p q r ((Prt.mk S2 o2 m1 cap1 0 p q q).get (wordAt w5)) ((Prt.mk S3 o3 m2 cap2 0 q r r).get (wordAt w5)) i j) ∧ (ok = false → Bad p r (sevN cut p q r ((Prt.mk S2 o2 m1 cap1 0 p q q).get (wordAt w5)) ((Prt.mk S3 o3 m2 cap2 0 q r r).get (wordAt w5)))) ∧ h ≤ h' ∧ h' ≤ max h (u + nd) ∧ Kq (fun S => S = so ∨ S = s) g w5 wx)
      case first =>
       as_aux_lemma =>
        have kq : Kq (fun S => S = so ∨ S = s) g w5 w5 := Kq.refl _ _ _
        have st := st5
        clear HBX HXN HMX HKP HEA HEB HIN HZ0 HLT HSO HNE HDM HAN st5 HND HNDE hnew
        go_region_held3 (fun W => W.cell? ⟨w.heap.size, 0, none⟩ = some (.int .i64 (p : Int)) ∧ W.cell? ⟨w.heap.size, 1, none⟩ = some (.int .i64 (q : Int)) ∧ W.cell? ⟨w.heap.size, 2, none⟩ = some (.slice (some ⟨S2, o2, none⟩) m1 cap1) ∧ W.cell? ⟨w.heap.size + 1, 0, none⟩ = some (.int .i64 (q : Int)) ∧ W.cell? ⟨w.heap.size + 1, 1, none⟩ = some (.int .i64 (r : Int)) ∧ W.cell? ⟨w.heap.size + 1, 2, none⟩ = some (.slice (some ⟨S3, o3, none⟩) m2 cap2) ∧ W.cell? ⟨gx, 0, none⟩ = some (.int .i64 (p : Int)) ∧ W.cell? ⟨gx, 1, none⟩ = some (.int .i64 (r : Int)) ∧ W.cell? ⟨gx, 2, none⟩ = some (.slice (some ⟨so, 0, none⟩) PR co))
          (first | with_reducible exact HK.out _ kq | with_reducible exact HK.out _ (Kq.drew kq) | (trace_state; fail))
          (first
            | (go_at_call 55; (refine (HMU.out _ st).mono ?_); rintro e v5 ⟨ok, m', h', rfl, s1, s2, s3, s4, s5, s6, s7⟩; replace kq := kq.trans s7)
            | (go_at_call 56; (refine (wi_whole).mono ?_); rintro e v4 ⟨rfl, bz⟩; (first | (with_reducible replace st := st.behind bz) | (replace st := st.drew.behind bz)); (first | (with_reducible replace kq := kq.below bz) | (replace kq := (Kq.drew kq).below bz)); clear bz)
            | (fail))
        all_goals
          go_wp2_with fail
          go_meet
          exact ⟨ok, m', h', rfl, s1, s3, s4, s5, s6, kq⟩
      obtain ⟨ok, m', h', rfl, s1, s3, s4, s5, s6, kq⟩ := hcut
      obtain ⟨w6, rfl⟩ : ∃ wo, wo = wc := ⟨_, rfl⟩
      obtain ⟨-, -, KZ, KX⟩ := HMX.out _ kq
      have hSC := sevN_congr (cut := cut) p q r _ _ _ _ HEA.out HEB.out
      have hHH : h ≤ h' ∧ h' ≤ max h (u + nd) := ⟨s5, s6⟩
      have HHH := Lib.hid hHH
      have HQ := Lib.hid kq
      have HS6 := Lib.hid s1
      have hfin : ∀ (w7 : World), Below w6.heap.size w6 w7 → ∀ x y z : Value, (∃ h'' ws', AN b0 (((w7.setCell ⟨w.heap.size + 1 + 1, 0, none⟩ x).setCell ⟨w.heap.size + 1 + 1, 1, none⟩ y).setCell ⟨w.heap.size + 1 + 1, 2, none⟩ z) g s n u h'' ws' ∧ h ≤ h'' ∧ h'' ≤ max h (u + nd)) ∧ Kp g s w (((w7.setCell ⟨w.heap.size + 1 + 1, 0, none⟩ x).setCell ⟨w.heap.size + 1 + 1, 1, none⟩ y).setCell ⟨w.heap.size + 1 + 1, 2, none⟩ z) ∧ Io w (((w7.setCell ⟨w.heap.size + 1 + 1, 0, none⟩ x).setCell ⟨w.heap.size + 1 + 1, 1, none⟩ y).setCell ⟨w.heap.size + 1 + 1, 2, none⟩ z) := fun w7 b7 x y z => by
        obtain ⟨ws', A6⟩ := (HS6.out.behind b7).an
        have hlt := HLT.out
        have hso := HSO.out
        have h35 := H35.out
        refine ⟨⟨h', ws', ((A6.put (p := ⟨w.heap.size + 1 + 1, 0, none⟩) (by show g ≠ w.heap.size + 1 + 1; omega) (by show s ≠ w.heap.size + 1 + 1; omega) x).put (p := ⟨w.heap.size + 1 + 1, 1, none⟩) (by show g ≠ w.heap.size + 1 + 1; omega) (by show s ≠ w.heap.size + 1 + 1; omega) y).put (p := ⟨w.heap.size + 1 + 1, 2, none⟩) (by show g ≠ w.heap.size + 1 + 1; omega) (by show s ≠ w.heap.size + 1 + 1; omega) z, HHH.out.1, HHH.out.2⟩, ?_⟩
        have k6 : Kp g s w w7 := ⟨Nat.le_trans h35 (Nat.le_trans HQ.out.size b7.size), fun j hj h1 h2 => (b7.block j (by have := HQ.out.size; omega)).trans ((HQ.out.keep j (by omega) (fun hh => by rcases hh with hh | hh <;> omega) h1).trans (HKP.out.keep j hj h1 h2))⟩
        exact ⟨((k6.fresh (by omega) x).fresh (by omega) y).fresh (by omega) z, ((((HIO.out.trans HQ.out.io).trans (Io.of b7)).trans (Io.set _ _ _)).trans (Io.set _ _ _)).trans (Io.set _ _ _)⟩
      have HFIN := Lib.hid hfin
      clear hfin hHH s5 s6 HBX HK HMU HEA HEB st5 HND hnew HZ0 HNE HKP HQ
      cases ok
      · as_aux_lemma =>
        have hE : EE = 13 := by rw [HEE.out]; exact wiE_bad ((s4 rfl).of hSC)
        subst hE
        have g0 := KZ.cell (i := 0) rfl
        have g1 := KZ.cell (i := 1) rfl
        have g2 := KZ.cell (i := 2) rfl
        have f0 := KZ.f 0
        have f1 := KZ.f 1
        have f2 := KZ.f 2
        clear hSC s1 s3 s4 KX KZ HMX HS6
        go_wp2
        exact bodyPost_ret (v := .tuple #[.agg #[.int .i64 0, .int .i64 0, .slice none 0 0], .int .i64 13]) (by simp [results, Try.results22, go_sem, g0, g1, g2]) rfl ⟨⟨0, 0, none, 0, 0, rfl, .inr ⟨by decide, rfl, rfl, rfl, rfl, rfl⟩⟩, (HFIN.out _ (Below.refl _ _) _ _ _).1, (HFIN.out _ (Below.refl _ _) _ _ _).2⟩
      · as_aux_lemma =>
        have hv := s3 rfl
        have hlf : Lf (sevN cut p q r (matN q xs) (matN r ys)) := sevN_lf _ _ _ _ _ (fun i j => lim_lt HIN.out.2.2.1 (by decide) _) (fun i j => lim_lt HIN.out.2.2.2.1 (by decide) _)
        have hlow : Low 18446744073709551616 (prodS cut p q r xs ys) := rowV_low fun k _ => by have := hlf (k / r) (k % r); omega
        have hzl : (prodS cut p q r xs ys).length = PR := by rw [HDM.out.2.2.2.2.2.2.2.2]; exact rowV_length _ _
        have hco : PR ≤ co := HCO.out
        have hr0 : 0 < r := by have := HDM.out; omega
        have hrd : RdAt so w6 (.slice (some ⟨so, 0, none⟩) PR co) (prodS cut p q r xs ys) := .inr ⟨0, co, by rw [hzl], by rw [hzl]; exact hco, fun k hk => by
          rw [hzl] at hk
          have hk' : k < p * r := by have := HDM.out; omega
          have hi : k / r < p := Nat.div_lt_of_lt_mul (by rw [Nat.mul_comm]; exact hk')
          have hj := Nat.mod_lt k hr0
          have hcell := s1.cell (S := so) (o := 0 + k) (.inl ⟨rfl, by omega⟩)
          have h9 := hv (k / r) (k % r) hi hj
          have h8 : (Prt.mk so 0 PR co 0 p r r).get m' (k / r) (k % r) = m' so (0 + k) := by
            show m' so (0 + (0 + k / r * r + k % r)) = _
            rw [Nat.zero_add (k / r * r), Nat.div_add_mod']
          rw [h8, hSC _ _ hi hj] at h9
          have h7 : lim (prodS cut p q r xs ys) k = sevN cut p q r (matN q xs) (matN r ys) (k / r) (k % r) := by unfold prodS; rw [rowV_lim _ hk']
          rw [h7, ← h9]
          exact hcell⟩
        have hlt6 : so < w6.heap.size := Nat.lt_of_lt_of_le (by have := KX.lt; have := HSO.out; omega) (Nat.le_refl _)
        have HFO := Lib.hid (shape_finite (R := (p : Int)) (C := (r : Int)) ⟨so, hlt6, hrd⟩ hlow)
        have hmm : mayM p r PR = true := mayM_iff.2 (by
          obtain ⟨i1, i2, i3, i4, i5, i6, i7, i8, i9⟩ := HDM.out
          exact ⟨by omega, by omega, by omega, by omega, by rw [i9, Int.natCast_mul]⟩)
        rw [show finM p r PR (prodS cut p q r xs ys) = if finB (prodS cut p q r xs ys) PR = true then 0 else 12 by have h6 := finU_finB (prodS cut p q r xs ys); rw [hzl] at h6; unfold finM; rw [hmm, if_pos rfl, h6]] at HFO
        have hWE : EE = if finB (prodS cut p q r xs ys) PR = true then 0 else 13 := by rw [HEE.out]; unfold wiE; rw [HDM.out.2.2.2.2.2.2.2.2]
        have HWE := Lib.hid hWE
        have HRD := Lib.hid hrd
        have x0 := KX.cell (i := 0) rfl
        have x1 := KX.cell (i := 1) rfl
        have x2 := KX.cell (i := 2) rfl
        clear hSC s1 s3 s4 hv hlf hlow hzl hrd hWE hmm hr0 hco
        go_wp2_with fail
        refine HFO.out.mono ?_
        rintro e w7 ⟨rfl, b7⟩
        replace KX := KX.behind b7
        replace KZ := KZ.behind b7
        have HB7 := Lib.hid b7
        have g0 := KZ.cell (i := 0) rfl
        have g1 := KZ.cell (i := 1) rfl
        have g2 := KZ.cell (i := 2) rfl
        have f0 := KZ.f 0
        have f1 := KZ.f 1
        have f2 := KZ.f 2
        have HF7 := Lib.hid (fun x y z => HFIN.out w7 b7 x y z)
        have HR7 : Hid (New (w.heap.size + 3) w7 (.slice (some ⟨so, 0, none⟩) PR co) (prodS cut p q r xs ys)) := Lib.hid ⟨so, HRD.out.kept (b7.block so hlt6), Nat.lt_of_lt_of_le hlt6 b7.size, .inr HSO.out.1⟩
        clear x0 x1 x2 b7
        have x0 := KX.cell (i := 0) rfl
        have x1 := KX.cell (i := 1) rfl
        have x2 := KX.cell (i := 2) rfl
        clear HFO HMX HS6 HRD HB7
        cases hfb : finB (prodS cut p q r xs ys) PR
        · have hE : EE = 13 := by rw [HWE.out, hfb, if_neg (by decide)]
          subst hE
          clear hfb HWE KX KZ
          go_wp2
          exact bodyPost_ret (v := .tuple #[.agg #[.int .i64 0, .int .i64 0, .slice none 0 0], .int .i64 13]) (by simp [results, Try.results22, go_sem, g0, g1, g2]) rfl ⟨⟨0, 0, none, 0, 0, rfl, .inr ⟨by decide, rfl, rfl, rfl, rfl, rfl⟩⟩, (HF7.out _ _ _).1, (HF7.out _ _ _).2⟩
        · have hE : EE = 0 := by rw [HWE.out, hfb, if_pos rfl]
          subst hE
          clear hfb HWE KX KZ
          go_wp2
          exact bodyPost_ret (v := .tuple #[.agg #[.int .i64 (p : Int), .int .i64 (r : Int), .slice (some ⟨so, 0, none⟩) PR co], .int .i64 0]) (by simp [results, Try.results22, go_sem, g0, g1, g2]) rfl ⟨(Told.put3 (.inl ⟨rfl, rfl, rfl, rfl, HR7.out⟩) (by omega) _ _ _).lower (by omega), (HF7.out _ _ _).1, (HF7.out _ _ _).2⟩
end Go.Proofs.Ytjapilpjahhimaa

/- winograd: Mul's errors, Product. -/
namespace Go.Proofs.Ytjapilpjahhimaa
open Go.RowKit Go.Shelf
/-- why there is no product; 0: there may be one -/
def mayE (R C R2 C2 : Int) (m1 m2 : Nat) (xs ys : List Nat) (cut : Int) : Int := if finM R C m1 xs ≠ 0 then finM R C m1 xs else if finM R2 C2 m2 ys ≠ 0 then finM R2 C2 m2 ys else if C ≠ R2 then 11 else if cut < 1 then 4 else 0
set_option maxRecDepth 100000 in
set_option maxHeartbeats 16000000 in
theorem wi_mulE {R C R2 C2 cut : Int} {a b : Option Addr} {m1 m2 cap1 cap2 : Nat} {xs ys : List Nat} {pw : Value} {w : World} (hA : Arg w (.slice a m1 cap1) xs) (hB : Arg w (.slice b m2 cap2) ys) (lx : Low 18446744073709551616 xs) (ly : Low 18446744073709551616 ys) (hE : mayE R C R2 C2 m1 m2 xs ys cut ≠ 0) :
    Calls Try.prog 22 #[.agg #[.int .i64 R, .int .i64 C, .slice a m1 cap1], .agg #[.int .i64 R2, .int .i64 C2, .slice b m2 cap2], .int .i64 cut, pw] w fun e W' => e = .returned (.tuple #[.agg #[.int .i64 0, .int .i64 0, .slice none 0 0], .int .i64 (mayE R C R2 C2 m1 m2 xs ys cut)]) ∧ Below w.heap.size w W' := by
  have HF1 : Hid (∀ W, Below w.heap.size w W → _) := Lib.hid (fun W (hb : Below w.heap.size w W) => shape_finite (R := R) (C := C) (hA.behind hb) lx)
  have HF2 : Hid (∀ W, Below w.heap.size w W → _) := Lib.hid (fun W (hb : Below w.heap.size w W) => shape_finite (R := R2) (C := C2) (hB.behind hb) ly)
  obtain ⟨E1, hE1⟩ : ∃ E, E = finM R C m1 xs := ⟨_, rfl⟩
  obtain ⟨E2, hE2⟩ : ∃ E, E = finM R2 C2 m2 ys := ⟨_, rfl⟩
  have HMY : Hid (E1 = 0 → E2 = 0 → C = R2 → (sideB R && sideB C && sideB C2) = true) := Lib.hid (fun h1 h2 _ => by
    have := (finM_ok (hE1.symm.trans h1)).1
    have h3 := (finM_ok (hE2.symm.trans h2)).1
    obtain ⟨p1, p2, p3, p4, p5⟩ := mayM_iff.1 this
    obtain ⟨q1, q2, q3, q4, q5⟩ := mayM_iff.1 h3
    simp [sideB]
    omega)
  unfold mayE at hE ⊢
  rw [← hE1] at HF1
  rw [← hE2] at HF2
  rw [← hE1, ← hE2] at hE ⊢
  have y0 : ∀ w : World, (Instr.index 71 (.agg #[.int .i64 R, .int .i64 C, .slice a m1 cap1, .int .i64 R2, .int .i64 C2, .slice b m2 cap2]) (.int .i64 0)).run Try.prog w = .ok (.agg #[.int .i64 R, .int .i64 C, .slice a m1 cap1]) w := fun _ => by kernel_rfl
  have y1 : ∀ w : World, (Instr.index 71 (.agg #[.int .i64 R, .int .i64 C, .slice a m1 cap1, .int .i64 R2, .int .i64 C2, .slice b m2 cap2]) (.int .i64 1)).run Try.prog w = .ok (.agg #[.int .i64 R2, .int .i64 C2, .slice b m2 cap2]) w := fun _ => by kernel_rfl
  obtain ⟨B0, G1, G2, hw1⟩ := vboxm w #[.int .i64 R, .int .i64 C, .slice a m1 cap1] #[.int .i64 R2, .int .i64 C2, .slice b m2 cap2] 24 24 _ rfl
  obtain ⟨j3, G3⟩ := mbox ((w.alloc (.cells #[.int .i64 R, .int .i64 C, .slice a m1 cap1] 24)).alloc (.cells #[.int .i64 R2, .int .i64 C2, .slice b m2 cap2] 24)) #[.int .i64 0, .int .i64 0, .slice none 0 0] 24 _ rfl
  replace G1 := G1.behind j3
  replace G2 := G2.behind j3
  replace B0 := below_both B0 j3
  simp only [World.size_alloc] at G3
  have c0 := G1.cell (i := 0) rfl
  have c1 := G1.cell (i := 1) rfl
  have c2 := G1.cell (i := 2) rfl
  have d0 := G2.cell (i := 0) rfl
  have d1 := G2.cell (i := 1) rfl
  have d2 := G2.cell (i := 2) rfl
  have HEN := Lib.hid hE
  obtain ⟨EE, hEE⟩ : ∃ E : Int, E = if E1 ≠ 0 then E1 else if E2 ≠ 0 then E2 else if C ≠ R2 then 11 else if cut < 1 then 4 else 0 := ⟨_, rfl⟩
  rw [← hEE]
  have HEE := Lib.hid hEE
  clear hA hB lx ly hE hE1 hE2 hw1 j3 hEE
  go_enter Try.func22, Try.ntmps22
  go_wp2
  generalize ((w.alloc (.cells #[.int .i64 R, .int .i64 C, .slice a m1 cap1] 24)).alloc (.cells #[.int .i64 R2, .int .i64 C2, .slice b m2 cap2] 24)).alloc (.cells #[.int .i64 0, .int .i64 0, .slice none 0 0] 24) = W0 at *
  go_loopw [21] (fun i wr => ∃ (k : Nat) (z : Int), k ≤ 2 ∧ z = k ∧ i = .int .i64 z ∧ (1 ≤ k → E1 = 0) ∧ (2 ≤ k → E2 = 0) ∧ Below W0.heap.size W0 wr) (fun i _ => 2 - (intOf i).toNat)
  case atStart => exact ⟨0, 0, by omega, rfl, rfl, (fun h => by omega), (fun h => by omega), Below.refl _ _⟩
  case round =>
    obtain ⟨k, z, hk, hz, rfl, hk1, hk2, hB⟩ := hrel
    have HK1 := Lib.hid hk1
    have HK2 := Lib.hid hk2
    clear hk1 hk2
    rcases (show k = 0 ∨ k = 1 ∨ k = 2 by omega) with rfl | rfl | rfl
    · as_aux_lemma =>
      obtain rfl : z = 0 := hz
      have HFX := Lib.hid (HF1.out (wr.alloc (.cells #[.int .i64 R, .int .i64 C, .slice a m1 cap1] 24)) (below_both B0 (below_both hB (bel_new wr _))))
      have bA := bel_new wr (.cells #[.int .i64 R, .int .i64 C, .slice a m1 cap1] 24)
      have KZ := (G3.behind hB).behind bA
      go_wp2_with fail
      refine HFX.out.mono ?_
      rintro e w2 ⟨rfl, b2⟩
      replace KZ := KZ.behind b2
      have HBF := Lib.hid (below_both B0 (below_both hB (below_both bA b2)))
      have HBR := Lib.hid (below_both hB (below_both bA b2))
      by_cases he : E1 = 0
      · have q : (E1 != 0) = false := by simp [he]
        have HH := Lib.hid he
        clear he
        go_wp2
        exact ⟨⟨1, 1, by omega, rfl, rfl, (fun _ => HH.out), (fun h => by omega), HBR.out⟩, by simp [intOf]⟩
      · have q : (E1 != 0) = true := bne_iff_ne.2 he
        have hq : EE = E1 := by rw [HEE.out, if_pos he]
        subst hq
        clear he
        have g0 := KZ.cell (i := 0) rfl
        have g1 := KZ.cell (i := 1) rfl
        have g2 := KZ.cell (i := 2) rfl
        have f0 := KZ.f 0
        have f1 := KZ.f 1
        have f2 := KZ.f 2
        clear KZ
        go_wp2
        exact bodyPost_ret (v := .tuple #[.agg #[.int .i64 0, .int .i64 0, .slice none 0 0], .int .i64 EE]) (by simp [results, Try.results22, go_sem, g0, g1, g2]) rfl ⟨rfl, HBF.out.put3 (by omega) _ _ _⟩
    · as_aux_lemma =>
      obtain rfl : z = 1 := hz
      have HFX := Lib.hid (HF2.out (wr.alloc (.cells #[.int .i64 R2, .int .i64 C2, .slice b m2 cap2] 24)) (below_both B0 (below_both hB (bel_new wr _))))
      have bA := bel_new wr (.cells #[.int .i64 R2, .int .i64 C2, .slice b m2 cap2] 24)
      have KZ := (G3.behind hB).behind bA
      go_wp2_with fail
      refine HFX.out.mono ?_
      rintro e w2 ⟨rfl, b2⟩
      replace KZ := KZ.behind b2
      have HBF := Lib.hid (below_both B0 (below_both hB (below_both bA b2)))
      have HBR := Lib.hid (below_both hB (below_both bA b2))
      by_cases he : E2 = 0
      · have q : (E2 != 0) = false := by simp [he]
        have HH := Lib.hid he
        clear he
        go_wp2
        exact ⟨⟨2, 2, by omega, rfl, rfl, (fun _ => HK1.out (by omega)), (fun h => HH.out), HBR.out⟩, by simp [intOf]⟩
      · have q : (E2 != 0) = true := bne_iff_ne.2 he
        have hq : EE = E2 := by rw [HEE.out, if_neg (by rw [HK1.out (by omega)]; decide), if_pos he]
        subst hq
        clear he
        have g0 := KZ.cell (i := 0) rfl
        have g1 := KZ.cell (i := 1) rfl
        have g2 := KZ.cell (i := 2) rfl
        have f0 := KZ.f 0
        have f1 := KZ.f 1
        have f2 := KZ.f 2
        clear KZ
        go_wp2
        exact bodyPost_ret (v := .tuple #[.agg #[.int .i64 0, .int .i64 0, .slice none 0 0], .int .i64 EE]) (by simp [results, Try.results22, go_sem, g0, g1, g2]) rfl ⟨rfl, HBF.out.put3 (by omega) _ _ _⟩
    · obtain rfl : z = 2 := hz
      obtain ⟨w1, rfl⟩ : ∃ wo, wo = wr := ⟨_, rfl⟩
      have z1 := HK1.out (by omega)
      have z2 := HK2.out (by omega)
      have KZ := G3.behind hB
      have HBF := Lib.hid (below_both B0 hB)
      replace G1 := G1.behind hB
      replace G2 := G2.behind hB
      have hee := HEE.out
      rw [if_neg (by rw [z1]; decide), if_neg (by rw [z2]; decide)] at hee
      have hne : EE ≠ 0 := by rw [HEE.out]; exact HEN.out
      clear c0 c1 c2 d0 d1 d2 y0 y1 HF1 HF2 B0 hB
      have c0 := G1.cell (i := 0) rfl
      have c1 := G1.cell (i := 1) rfl
      have d0 := G2.cell (i := 0) rfl
      have d1 := G2.cell (i := 1) rfl
      by_cases hC : C = R2
      · rw [if_neg (by rw [hC]; simp)] at hee
        by_cases hcut : cut < 1
        · rw [if_pos hcut] at hee
          subst hee
          have hside := HMY.out z1 z2 hC
          subst hC
          have hnd := fun W => wi_need_no (m := R) (k := C) (n := C2) (c := cut) (w := W) (by rw [hside, decide_eq_false (by omega)]; rfl)
          have q : (C != C) = false := by simp
          have HZ := Lib.hid (And.intro z1 z2)
          clear z1 z2 hside hcut hne
          have g0 := KZ.cell (i := 0) rfl
          have g1 := KZ.cell (i := 1) rfl
          have g2 := KZ.cell (i := 2) rfl
          have f0 := KZ.f 0
          have f1 := KZ.f 1
          have f2 := KZ.f 2
          clear KZ
          go_wp2_with fail
          refine (hnd _).mono ?_
          rintro e w2 ⟨rfl, rfl⟩
          go_wp2
          exact bodyPost_ret (v := .tuple #[.agg #[.int .i64 0, .int .i64 0, .slice none 0 0], .int .i64 4]) (by simp [results, Try.results22, go_sem, g0, g1, g2]) rfl ⟨rfl, HBF.out.put3 (by omega) _ _ _⟩
        · rw [if_neg hcut] at hee
          exact absurd hee hne
      · rw [if_pos hC] at hee
        subst hee
        have q : (C != R2) = true := bne_iff_ne.2 hC
        have HZ := Lib.hid (And.intro z1 z2)
        clear z1 z2 hC hne
        have g0 := KZ.cell (i := 0) rfl
        have g1 := KZ.cell (i := 1) rfl
        have g2 := KZ.cell (i := 2) rfl
        have f0 := KZ.f 0
        have f1 := KZ.f 1
        have f2 := KZ.f 2
        clear KZ
        go_wp2
        exact bodyPost_ret (v := .tuple #[.agg #[.int .i64 0, .int .i64 0, .slice none 0 0], .int .i64 11]) (by simp [results, Try.results22, go_sem, g0, g1, g2]) rfl ⟨rfl, HBF.out.put3 (by omega) _ _ _⟩
end Go.Proofs.Ytjapilpjahhimaa

/- winograd: Product. -/
namespace Go.Proofs.Ytjapilpjahhimaa
open Go.RowKit Go.Shelf
/-- what Product's error is -/
def prE (R C R2 C2 : Int) (m1 m2 : Nat) (xs ys : List Nat) (cut : Int) : Int := if mayE R C R2 C2 m1 m2 xs ys cut ≠ 0 then mayE R C R2 C2 m1 m2 xs ys cut else wiE cut.toNat R.toNat C.toNat C2.toNat xs ys
/-- and its words -/
def prL (R C C2 : Int) (xs ys : List Nat) (cut : Int) : List Nat := prodS cut.toNat R.toNat C.toNat C2.toNat xs ys
open Classical in
noncomputable def ndI (R C C2 cut : Int) : Nat := if (sideB R && sideB C && sideB C2 && decide (1 ≤ cut)) = true then needN R.toNat C.toNat C2.toNat cut.toNat else 0
theorem mayE_zero {R C R2 C2 : Int} {m1 m2 : Nat} {xs ys : List Nat} {cut : Int} (h : mayE R C R2 C2 m1 m2 xs ys cut = 0) : finM R C m1 xs = 0 ∧ finM R2 C2 m2 ys = 0 ∧ C = R2 ∧ 1 ≤ cut := by
  unfold mayE at h
  by_cases h1 : finM R C m1 xs = 0
  · rw [if_neg (by simp [h1])] at h
    by_cases h2 : finM R2 C2 m2 ys = 0
    · rw [if_neg (by simp [h2])] at h
      by_cases h3 : C = R2
      · rw [if_neg (by simp [h3])] at h
        by_cases h4 : cut < 1
        · rw [if_pos h4] at h; exact absurd h (by decide)
        · exact ⟨h1, h2, h3, by omega⟩
      · rw [if_pos h3] at h; exact absurd h (by decide)
    · rw [if_pos h2] at h; exact absurd h h2
  · rw [if_pos h1] at h; exact absurd h h1
theorem sideB_iff' {n : Int} : sideB n = true ↔ 1 ≤ n ∧ n ≤ 64 := by simp [sideB]
theorem argAt_of {W : World} {a : Option Addr} {m cap : Nat} {xs : List Nat} (h : Arg W (.slice a m cap) xs) (h0 : 0 < m) : ∃ S off, a = some ⟨S, off, none⟩ ∧ m = xs.length ∧ m ≤ cap ∧ ArgAt W S off xs := by
  obtain ⟨S, hS, hr⟩ := h
  rcases hr with ⟨⟨_, _, e⟩, rfl⟩ | ⟨off, c, e, hc, hcell⟩
  · simp only [Value.slice.injEq] at e
    omega
  · simp only [Value.slice.injEq] at e
    obtain ⟨rfl, rfl, rfl⟩ := e
    exact ⟨S, off, rfl, rfl, hc, hS, hcell⟩
theorem low_rep0 (n : Nat) : Low 18446744073709551616 (List.replicate n 0) := fun x hx => by rw [List.eq_of_mem_replicate hx]; decide
theorem wi_mulA {R C R2 C2 cut : Int} {a b : Option Addr} {m1 m2 cap1 cap2 : Nat} {xs ys : List Nat} {w W1 W2 : World} {g s : Nat} (hA : Arg w (.slice a m1 cap1) xs) (hB : Arg w (.slice b m2 cap2) ys) (lx : Low 18446744073709551616 xs) (ly : Low 18446744073709551616 ys)
    (hw : Below w.heap.size w W1) (A : AN W1.heap.size W2 g s (ndI R C C2 cut) 0 0 (List.replicate (ndI R C C2 cut) 0)) (h12 : Below W1.heap.size W1 W2) :
    Calls Try.prog 22 #[.agg #[.int .i64 R, .int .i64 C, .slice a m1 cap1], .agg #[.int .i64 R2, .int .i64 C2, .slice b m2 cap2], .int .i64 cut, .pointer (some ⟨g, 0, none⟩)] W2 fun e W' => Told R C2 (R.toNat * C2.toNat) (prE R C R2 C2 m1 m2 xs ys cut) (prL R C C2 xs ys cut) W1.heap.size e W' ∧ Below W1.heap.size W1 W' := by
  have hA2 := (hA.behind hw).behind h12
  have hB2 := (hB.behind hw).behind h12
  by_cases hE : mayE R C R2 C2 m1 m2 xs ys cut = 0
  · obtain ⟨e1, e2, rfl, e4⟩ := mayE_zero hE
    obtain ⟨p1, p2, p3, p4, p5⟩ := mayM_iff.1 (finM_ok e1).1
    obtain ⟨q1, q2, q3, q4, q5⟩ := mayM_iff.1 (finM_ok e2).1
    have hnd : ndI R C C2 cut = needN R.toNat C.toNat C2.toNat cut.toNat := by
      unfold ndI
      rw [if_pos]
      simp only [Bool.and_eq_true, sideB_iff', decide_eq_true_iff]
      omega
    obtain ⟨R, rfl⟩ : ∃ r : Nat, R = r := ⟨R.toNat, by omega⟩
    obtain ⟨C, rfl⟩ : ∃ r : Nat, C = r := ⟨C.toNat, by omega⟩
    obtain ⟨C2, rfl⟩ : ∃ r : Nat, C2 = r := ⟨C2.toNat, by omega⟩
    obtain ⟨cut, rfl⟩ : ∃ r : Nat, cut = r := ⟨cut.toNat, by omega⟩
    have hm1 : 0 < m1 := by
      have h0 : (0 : Int) < (R : Int) * (C : Int) := Int.mul_pos (by omega) (by omega)
      omega
    have hm2 : 0 < m2 := by
      have h0 : (0 : Int) < (C : Int) * (C2 : Int) := Int.mul_pos (by omega) (by omega)
      omega
    obtain ⟨S2, o2, rfl, la, ca, aA⟩ := argAt_of hA hm1
    obtain ⟨S3, o3, rfl, lb, cb, aB⟩ := argAt_of hB hm2
    have bg := A.bg
    have bs := A.bs
    have ws := hw.size
    have l2 := aA.1
    have l3 := aB.1
    rw [show prE R C C C2 m1 m2 xs ys cut = wiE cut R C C2 xs ys by unfold prE; rw [if_neg (by simp [hE])]; simp only [Int.toNat_natCast]]
    rw [show prL R C C2 xs ys cut = prodS cut R C C2 xs ys by unfold prL; simp only [Int.toNat_natCast]]
    simp only [Int.toNat_natCast] at hnd ⊢
    refine (wi_mulY (cut := cut) ((aA.behind hw).behind h12) ((aB.behind hw).behind h12) la lb ca cb lx ly (low_rep0 _) e1 e2 (by omega) A (by omega) (by omega) (by omega)).mono ?_
    rintro e W' ⟨k1, k2, k3, k4⟩
    refine ⟨k1.lower h12.size, ⟨k4.1.trans h12.os, k4.2.1.trans h12.tape, k4.2.2.trans h12.output, Nat.le_trans h12.size k3.size, fun j hj => (k3.keep j (Nat.lt_of_lt_of_le hj h12.size) (by omega) (by omega)).trans (h12.block j hj)⟩⟩
  · rw [show prE R C R2 C2 m1 m2 xs ys cut = mayE R C R2 C2 m1 m2 xs ys cut by unfold prE; rw [if_pos hE]]
    refine (wi_mulE hA2 hB2 lx ly hE).mono ?_
    rintro e W' ⟨rfl, hb⟩
    exact ⟨⟨0, 0, none, 0, 0, rfl, .inr ⟨hE, rfl, rfl, rfl, rfl, rfl⟩⟩, below_both h12 hb⟩
set_option maxRecDepth 100000 in
set_option maxHeartbeats 16000000 in
theorem wi_product {R C R2 C2 cut : Int} {a b : Option Addr} {m1 m2 cap1 cap2 : Nat} {xs ys : List Nat} {w : World} (hA : Arg w (.slice a m1 cap1) xs) (hB : Arg w (.slice b m2 cap2) ys) (lx : Low 18446744073709551616 xs) (ly : Low 18446744073709551616 ys) :
    Calls Try.prog 12 #[.agg #[.int .i64 R, .int .i64 C, .slice a m1 cap1], .agg #[.int .i64 R2, .int .i64 C2, .slice b m2 cap2], .int .i64 cut] w fun e W' => Told R C2 (R.toNat * C2.toNat) (prE R C R2 C2 m1 m2 xs ys cut) (prL R C C2 xs ys cut) w.heap.size e W' ∧ Below w.heap.size w W' := by
  have HMX : Hid (∀ (W1 W2 : World) (g s : Nat), Below w.heap.size w W1 → AN W1.heap.size W2 g s (ndI R C C2 cut) 0 0 (List.replicate (ndI R C C2 cut) 0) → Below W1.heap.size W1 W2 → _) := Lib.hid (fun W1 W2 g s h1 h2 h3 => wi_mulA (R2 := R2) hA hB lx ly h1 h2 h3)
  have HND : Hid (∃ er : Int, ∀ W, Calls Try.prog 25 #[.int .i64 R, .int .i64 C, .int .i64 C2, .int .i64 cut] W fun e W' => e = .returned (.tuple #[.int .i64 (ndI R C C2 cut : Int), .int .i64 er]) ∧ W = W') := Lib.hid (by
    by_cases h : (sideB R && sideB C && sideB C2 && decide (1 ≤ cut)) = true
    · have hnd : ndI R C C2 cut = needN R.toNat C.toNat C2.toNat cut.toNat := by unfold ndI; rw [if_pos h]
      simp only [Bool.and_eq_true, sideB_iff', decide_eq_true_iff] at h
      obtain ⟨R, rfl⟩ : ∃ r : Nat, R = r := ⟨R.toNat, by omega⟩
      obtain ⟨C, rfl⟩ : ∃ r : Nat, C = r := ⟨C.toNat, by omega⟩
      obtain ⟨C2, rfl⟩ : ∃ r : Nat, C2 = r := ⟨C2.toNat, by omega⟩
      obtain ⟨cut, rfl⟩ : ∃ r : Nat, cut = r := ⟨cut.toNat, by omega⟩
      simp only [Int.toNat_natCast] at hnd
      rw [hnd]
      exact ⟨0, fun W => wi_need ⟨by omega, by omega⟩ ⟨by omega, by omega⟩ ⟨by omega, by omega⟩ (by omega)⟩
    · have hnd : ndI R C C2 cut = 0 := by unfold ndI; rw [if_neg h]
      rw [hnd]
      exact ⟨4, fun W => wi_need_no (by simpa using h)⟩)
  have HNB : Hid (ndI R C C2 cut ≤ 1048576) := Lib.hid (by
    unfold ndI
    split
    · rename_i h
      simp only [Bool.and_eq_true, sideB_iff', decide_eq_true_iff] at h
      have h3 := needN_third R.toNat C.toNat C2.toNat cut.toNat
      have a1 : R.toNat * C.toNat ≤ 64 * 64 := Nat.mul_le_mul (by omega) (by omega)
      have a2 : C.toNat * C2.toNat ≤ 64 * 64 := Nat.mul_le_mul (by omega) (by omega)
      have a3 : R.toNat * C2.toNat ≤ 64 * 64 := Nat.mul_le_mul (by omega) (by omega)
      omega
    · omega)
  obtain ⟨er, hnd⟩ := HND.out
  generalize ndI R C C2 cut = ND at *
  generalize prE R C R2 C2 m1 m2 xs ys cut = EE at *
  generalize prL R C C2 xs ys cut = LL at *
  generalize R.toNat * C2.toNat = MM at *
  obtain ⟨B, G1, G2, hw0⟩ := vboxm w #[.int .i64 R, .int .i64 C, .slice a m1 cap1] #[.int .i64 R2, .int .i64 C2, .slice b m2 cap2] 24 24 _ rfl
  obtain ⟨j3, G3⟩ := mbox ((w.alloc (.cells #[.int .i64 R, .int .i64 C, .slice a m1 cap1] 24)).alloc (.cells #[.int .i64 R2, .int .i64 C2, .slice b m2 cap2] 24)) #[.int .i64 0, .int .i64 0, .slice none 0 0] 24 _ rfl
  replace G1 := G1.behind j3
  replace G2 := G2.behind j3
  replace B := below_both B j3
  simp only [World.size_alloc] at G3
  have c0 := G1.cell (i := 0) rfl
  have c1 := G1.cell (i := 1) rfl
  have d1 := G2.cell (i := 1) rfl
  clear hA hB lx ly hw0 j3 HND
  go_enter Try.func12, Try.ntmps12
  go_wp2_with fail
  generalize ((w.alloc (.cells #[.int .i64 R, .int .i64 C, .slice a m1 cap1] 24)).alloc (.cells #[.int .i64 R2, .int .i64 C2, .slice b m2 cap2] 24)).alloc (.cells #[.int .i64 0, .int .i64 0, .slice none 0 0] 24) = W0 at *
  refine (hnd _).mono ?_
  rintro e w1 ⟨rfl, rfl⟩
  clear hnd c0 c1 d1
  have Br : Below W0.heap.size W0 W0 := Below.refl _ _
  have hlt := G3.lt
  have HCL : Hid (∀ W, Below W0.heap.size W0 W → W.cell? ⟨w.heap.size, 0, none⟩ = some (.int .i64 R) ∧ W.cell? ⟨w.heap.size, 1, none⟩ = some (.int .i64 C) ∧ W.cell? ⟨w.heap.size, 2, none⟩ = some (.slice a m1 cap1) ∧ W.cell? ⟨w.heap.size + 1, 0, none⟩ = some (.int .i64 R2) ∧ W.cell? ⟨w.heap.size + 1, 1, none⟩ = some (.int .i64 C2) ∧ W.cell? ⟨w.heap.size + 1, 2, none⟩ = some (.slice b m2 cap2)) := Lib.hid (fun W h => ⟨(G1.behind h).cell (i := 0) rfl, (G1.behind h).cell (i := 1) rfl, (G1.behind h).cell (i := 2) rfl, (G2.behind h).cell (i := 0) rfl, (G2.behind h).cell (i := 1) rfl, (G2.behind h).cell (i := 2) rfl⟩)
  have HCM : Hid (∀ W x y z, Below W0.heap.size W0 W → (fun W => W.cell? ⟨w.heap.size, 0, none⟩ = some (.int .i64 R) ∧ W.cell? ⟨w.heap.size, 1, none⟩ = some (.int .i64 C) ∧ W.cell? ⟨w.heap.size, 2, none⟩ = some (.slice a m1 cap1) ∧ W.cell? ⟨w.heap.size + 1, 0, none⟩ = some (.int .i64 R2) ∧ W.cell? ⟨w.heap.size + 1, 1, none⟩ = some (.int .i64 C2) ∧ W.cell? ⟨w.heap.size + 1, 2, none⟩ = some (.slice b m2 cap2)) (((W.setCell ⟨w.heap.size + 1 + 1, 0, none⟩ x).setCell ⟨w.heap.size + 1 + 1, 1, none⟩ y).setCell ⟨w.heap.size + 1 + 1, 2, none⟩ z)) := Lib.hid (fun W x y z h => by
    have k1 := (((G1.behind h).put (p := ⟨w.heap.size + 1 + 1, 0, none⟩) (by show w.heap.size ≠ w.heap.size + 1 + 1; omega) x).put (p := ⟨w.heap.size + 1 + 1, 1, none⟩) (by show w.heap.size ≠ w.heap.size + 1 + 1; omega) y).put (p := ⟨w.heap.size + 1 + 1, 2, none⟩) (by show w.heap.size ≠ w.heap.size + 1 + 1; omega) z
    have k2 := (((G2.behind h).put (p := ⟨w.heap.size + 1 + 1, 0, none⟩) (by show w.heap.size + 1 ≠ w.heap.size + 1 + 1; omega) x).put (p := ⟨w.heap.size + 1 + 1, 1, none⟩) (by show w.heap.size + 1 ≠ w.heap.size + 1 + 1; omega) y).put (p := ⟨w.heap.size + 1 + 1, 2, none⟩) (by show w.heap.size + 1 ≠ w.heap.size + 1 + 1; omega) z
    exact ⟨k1.cell (i := 0) rfl, k1.cell (i := 1) rfl, k1.cell (i := 2) rfl, k2.cell (i := 0) rfl, k2.cell (i := 1) rfl, k2.cell (i := 2) rfl⟩)
  go_upto_region 2 with (fail)
  go_region_held3 (fun W => W.cell? ⟨w.heap.size, 0, none⟩ = some (.int .i64 R) ∧ W.cell? ⟨w.heap.size, 1, none⟩ = some (.int .i64 C) ∧ W.cell? ⟨w.heap.size, 2, none⟩ = some (.slice a m1 cap1) ∧ W.cell? ⟨w.heap.size + 1, 0, none⟩ = some (.int .i64 R2) ∧ W.cell? ⟨w.heap.size + 1, 1, none⟩ = some (.int .i64 C2) ∧ W.cell? ⟨w.heap.size + 1, 2, none⟩ = some (.slice b m2 cap2))
    (first | with_reducible exact HCL.out _ Br | with_reducible exact HCL.out _ Br.drew | exact HCM.out _ _ _ _ Br | (trace_state; fail))
    (first
      | (go_at_call 22; (refine (HMX.out _ _ _ _ bw han hbz).mono ?_); rintro e w2 ⟨⟨rr, cc, bb, qq, kk, rfl, hx⟩, bz⟩; have HM := Lib.hid hx; replace Br := below_both hbr bz; have hsz := hbr.size; have g4 := G3.behind Br; have g0 := g4.cell (i := 0) rfl; have g1 := g4.cell (i := 1) rfl; have g2 := g4.cell (i := 2) rfl; have f0 := g4.f 0; have f1 := g4.f 1; have f2 := g4.f 2; clear hx bz g4)
      | (go_at_call 18; (refine (ar_new rfl HNB.out).mono ?_); rintro e w1 ⟨g, s, rfl, han, hbz⟩; have hbr := Br.drew; have bw := below_both B hbr; replace Br := below_both hbr hbz)
      | (fail))
  go_wp2
  exact bodyPost_ret (v := .tuple #[.agg #[.int .i64 rr, .int .i64 cc, .slice bb qq kk], .int .i64 EE]) (by simp [results, Try.results12, go_sem, g0, g1, g2]) rfl ⟨(Told.put3 HM.out (by have := hsz; omega) _ _ _).lower (by have := hsz; omega), (below_both B Br).put3 (by omega) _ _ _⟩
end Go.Proofs.Ytjapilpjahhimaa

/- vernierlaw26: alive, whole. -/
namespace Go.Proofs.Ytjapilpjahhimaa
open Go.RowKit Go.Shelf
theorem l26_prod : prL 1 1 1 [4611686018427387904] [4611686018427387904] 1 = [4616189618054758400] ∧ prE 1 1 1 1 1 1 [4611686018427387904] [4611686018427387904] 1 = 0 := by
  have h1 : timesU 4611686018427387904 4611686018427387904 = 4616189618054758400 := by unfold timesU; rw [rmul_twos]
  have h2 : plusU 0 4616189618054758400 = 4616189618054758400 := (plus_sgn (a := 4616189618054758400) (by decide) (by decide) false).2
  have e : prodS 1 1 1 1 [4611686018427387904] [4611686018427387904] = [4616189618054758400] := by
    unfold prodS
    rw [sevN_slow (by decide)]
    show [plusU 0 (timesU 4611686018427387904 4611686018427387904)] = _
    rw [h1, h2]
  have m0 : mayE 1 1 1 1 1 1 [4611686018427387904] [4611686018427387904] 1 = 0 := by decide
  have w0 : wiE 1 1 1 1 [4611686018427387904] [4611686018427387904] = 0 := by
    unfold wiE
    rw [e]
    decide
  refine ⟨e, ?_⟩
  unfold prE
  rw [if_neg (by rw [m0]; decide)]
  exact w0
set_option maxRecDepth 100000 in
set_option maxHeartbeats 8000000 in
theorem l26_alive (w : World) : Calls Try.prog 11 #[] w fun e W' => e = .returned (.bool true) ∧ Below w.heap.size w W' := by
  have hn := wi_need (m := 2) (k := 2) (n := 2) (c := 1) (w := w) (by decide) (by decide) (by decide) (by decide)
  have e4 : needN 2 2 2 1 = 4 := by rw [needN_fast (by decide), needN_slow (by decide)]
  rw [e4] at hn
  clear e4
  have b1 := bel_new w (.cells #[.int .u64 4611686018427387904] 49)
  have af : Arg (w.alloc (.cells #[.int .u64 4611686018427387904] 49)) (.slice (some ⟨w.heap.size, 0, none⟩) 1 1) [4611686018427387904] := by
    refine ⟨w.heap.size, by rw [World.size_alloc]; omega, .inr ⟨0, 1, rfl, Nat.le_refl _, fun j hj => ?_⟩⟩
    have : j = 0 := by simp at hj; omega
    subst this
    rw [World.cell?_alloc_new]; rfl
  obtain ⟨b2, G⟩ := mbox (w.alloc (.cells #[.int .u64 4611686018427387904] 49)) #[.int .i64 1, .int .i64 1, .slice (some ⟨w.heap.size, 0, none⟩) 1 1] 24 _ rfl
  have ha := fun (W : World) (h : Arg W (.slice (some ⟨w.heap.size, 0, none⟩) 1 1) [4611686018427387904]) => wi_product (R := 1) (C := 1) (R2 := 1) (C2 := 1) (cut := 1) h h (low_word (by decide)) (low_word (by decide))
  rw [l26_prod.1, l26_prod.2] at ha
  have HA := Lib.hid ha
  clear ha
  replace af := af.behind b2
  have B := below_both b1 b2
  have c0 := G.cell (i := 0) rfl
  have c1 := G.cell (i := 1) rfl
  have c2 := G.cell (i := 2) rfl
  simp only [World.size_alloc] at c0 c1 c2 G
  clear b1 b2
  go_enter Try.func11, Try.ntmps11
  go_wp2_with fail
  refine hn.mono ?_
  rintro e w1 ⟨rfl, rfl⟩
  clear hn
  go_wp2_with fail
  generalize (w.alloc (.cells #[.int .u64 4611686018427387904] 49)).alloc (.cells #[.int .i64 1, .int .i64 1, .slice (some ⟨w.heap.size, 0, none⟩) 1 1] 24) = W0 at *
  refine (HA.out _ af).mono ?_
  rintro e w5 ⟨⟨R3, C3, b, q, c', rfl, hx⟩, b5⟩
  rcases hx with ⟨h0, h1, h2, h3, hN⟩ | ⟨h, _⟩
  rotate_left
  · exact absurd rfl h
  clear h0 h1 h2 h3
  obtain ⟨T, o, rfl, rfl, hT, HT⟩ := hN.arg.one
  clear hN
  obtain ⟨b6, G6⟩ := mbox w5 #[.int .i64 R3, .int .i64 C3, .slice (some ⟨T, o, none⟩) 1 c'] 24 _ rfl
  have B6 := below_both b5 b6
  have f2 := G6.cell (i := 2) rfl
  have k2 := HT.out _ b6
  have HB := Lib.hid (below_both B B6)
  go_wp2
  go_ret
  exact ⟨rfl, HB.out⟩
end Go.Proofs.Ytjapilpjahhimaa
