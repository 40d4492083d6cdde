/- winograd: sevenParts. -/
import Derived.Test.YtjapilpjahhimaaWiCopy
namespace Go.Proofs.Ytjapilpjahhimaa
open Go.RowKit Go.Shelf
theorem Kq.alloc {X : Nat → Prop} {g : Nat} {W v : World} (k : Kq X g W v) (o : Obj) : Kq X g W (v.alloc o) := k.below (bel_new v o)
theorem Kq.drew {X : Nat → Prop} {g : Nat} {W v : World} (k : Kq X g W v) : Kq X g W v.drew := ⟨k.size, k.keep, k.io.trans (Io.of (Below.refl 0 v).drew)⟩
theorem St.alloc {L : Nat → Nat → Prop} {X : Nat → Prop} {b g s n u h : Nat} {m : Nat → Nat → Nat} {W : World} (k : St L X b g s n u h m W) (o : Obj) : St L X b g s n u h m (W.alloc o) := k.behind (bel_new W o)
theorem St.drew {L : Nat → Nat → Prop} {X : Nat → Prop} {b g s n u h : Nat} {m : Nat → Nat → Nat} {W : World} (k : St L X b g s n u h m W) : St L X b g s n u h m W.drew := k.behind (Below.refl _ W).drew
theorem nk1 {X : Nat → Prop} {g B : Nat} {W v : World} {cs : Array Value} {t : TypeId} (hx : ∀ S, X S → S < B) (hg : g < B) (hB : B ≤ W.heap.size) (k : Kq X g (W.alloc (.cells cs t)) v) : Ms v W.heap.size cs t :=
  k.ms (mbox W cs t _ rfl).2 (fun h => by have := hx _ h; omega) (by omega)
theorem nk1d {X : Nat → Prop} {g B : Nat} {W v : World} {cs : Array Value} {t : TypeId} (hx : ∀ S, X S → S < B) (hg : g < B) (hB : B ≤ W.heap.size) (k : Kq X g (W.alloc (.cells cs t)).drew v) : Ms v W.heap.size cs t :=
  k.ms (show Ms (W.alloc (.cells cs t)).drew W.heap.size cs t from (mbox W cs t _ rfl).2) (fun h => by have := hx _ h; omega) (by omega)
theorem nk2 {X : Nat → Prop} {g B : Nat} {W v : World} {cs : Array Value} {t : TypeId} {o : Obj} (hx : ∀ S, X S → S < B) (hg : g < B) (hB : B ≤ W.heap.size) (k : Kq X g ((W.alloc (.cells cs t)).alloc o) v) : Ms v W.heap.size cs t :=
  k.ms ((mbox W cs t _ rfl).2.behind (bel_new _ o)) (fun h => by have := hx _ h; omega) (by omega)
theorem nk2d {X : Nat → Prop} {g B : Nat} {W v : World} {cs : Array Value} {t : TypeId} {o : Obj} (hx : ∀ S, X S → S < B) (hg : g < B) (hB : B ≤ W.heap.size) (k : Kq X g ((W.alloc (.cells cs t)).alloc o).drew v) : Ms v W.heap.size cs t :=
  k.ms (show Ms ((W.alloc (.cells cs t)).alloc o).drew W.heap.size cs t from (show Ms ((W.alloc (.cells cs t)).alloc o) W.heap.size cs t from (mbox W cs t _ rfl).2.behind (bel_new _ o))) (fun h => by have := hx _ h; omega) (by omega)
theorem Kq.put5 {X : Nat → Prop} {g q : Nat} {W v : World} (k : Kq X g W v) (h : W.heap.size ≤ q) (a b c d e : Value) : Kq X g W (put5 v q a b c d e) := ((((k.fresh h a).fresh h b).fresh h c).fresh h d).fresh h e
theorem St.put5 {L : Nat → Nat → Prop} {X : Nat → Prop} {b g s n u h q : Nat} {m : Nat → Nat → Nat} {W : World} (k : St L X b g s n u h m W) (hs : s ≠ q) (hX : ∀ S, X S → S ≠ q) (hg : g ≠ q) (hL : ∀ S o, L S o → S ≠ q) (x y z w v : Value) : St L X b g s n u h m (put5 W q x y z w v) := ((((k.far hL hX hg hs).far hL hX hg hs).far hL hX hg hs).far hL hX hg hs).far hL hX hg hs
theorem hold_gen {P : Program} {md : Region.Mode} {ops : Array Oper} {Q : Exit → Act → World → Prop} {S : World → Prop} {fuel : Nat} {listed : Array Bool} {a : Act} {W : World} {φ : World → Prop} (h : φ W) (k : ∀ v, φ v → wpAnyH P md ops Q S fuel listed a v) : wpAnyH P md ops Q S fuel listed a W := k W h
theorem join_law {P : Program} {md : Region.Mode} {ops : Array Oper} {Q : Exit → Act → World → Prop} {S : World → Prop} {fuel f2 : Nat} {l : Array Bool} {a : Act} {W : World} {A : Nat → Nat → Act} (φ : Nat → Nat → World → Prop) (l2 : Array Bool)
    (main : (∀ g1 g2 v l, φ g1 g2 v → l = l2 → wpAnyH P md ops Q S f2 l (A g1 g2) v) → wpAnyH P md ops Q S fuel l a W) (leaf : ∀ g1 g2 v l, φ g1 g2 v → l = l2 → wpAnyH P md ops Q S f2 l (A g1 g2) v) : wpAnyH P md ops Q S fuel l a W := main leaf
theorem blk_eq (S B N cap O R C T i j r c : Nat) : (Prt.mk S B N cap O R C T).blk i j r c = Prt.mk S B N cap (O + i * T + j) r c T := rfl
set_option maxRecDepth 100000 in
set_option maxHeartbeats 16000000 in
theorem wi_seven {L : Nat → Nat → Prop} {X : Nat → Prop} {b0 g s n cut p q r u h S1 B1 N1 cap1 O1 T1 S2 B2 N2 cap2 O2 T2 S3 B3 N3 cap3 O3 T3 Ra Ca Rb Cb Rc Cc : Nat} {m : Nat → Nat → Nat} {w : World}
    (hs : St L X b0 g s n u h m w) (h1 : (Prt.mk S1 B1 N1 cap1 O1 Rc Cc T1).ok L) (h2 : (Prt.mk S2 B2 N2 cap2 O2 Ra Ca T2).ok L) (h3 : (Prt.mk S3 B3 N3 cap3 O3 Rb Cb T3).ok L) (ra : Ra = 2 * p) (ca : Ca = 2 * q) (rb : Rb = 2 * q) (cb : Cb = 2 * r) (rc : Rc = 2 * p) (cc : Cc = 2 * r) (hp : 0 < p) (hq : 0 < q) (hr : 0 < r) (hX : X S1) (hXs : X s) (hun : u + (p * q + q * r + 2 * p * r) + needN p q r cut ≤ n)
    (hM : MulSpec L X b0 g s n cut p q r) (hL : ∀ o, o < n → L s o) (dA : Dis (Prt.mk S2 B2 N2 cap2 O2 Ra Ca T2) (Prt.mk S1 B1 N1 cap1 O1 Rc Cc T1)) (dB : Dis (Prt.mk S3 B3 N3 cap3 O3 Rb Cb T3) (Prt.mk S1 B1 N1 cap1 O1 Rc Cc T1)) (fA : Fre s u (Prt.mk S2 B2 N2 cap2 O2 Ra Ca T2)) (fB : Fre s u (Prt.mk S3 B3 N3 cap3 O3 Rb Cb T3)) (fC : Fre s u (Prt.mk S1 B1 N1 cap1 O1 Rc Cc T1)) :
    Calls Try.prog 78 #[.agg #[.pointer (some ⟨g, 0, none⟩), .int .i64 (cut : Int)], .agg #[.int .i64 (Rc : Int), .int .i64 (Cc : Int), .int .i64 (T1 : Int), .int .i64 (O1 : Int), .slice (some ⟨S1, B1, none⟩) N1 cap1], .agg #[.int .i64 (Ra : Int), .int .i64 (Ca : Int), .int .i64 (T2 : Int), .int .i64 (O2 : Int), .slice (some ⟨S2, B2, none⟩) N2 cap2], .agg #[.int .i64 (Rb : Int), .int .i64 (Cb : Int), .int .i64 (T3 : Int), .int .i64 (O3 : Int), .slice (some ⟨S3, B3, none⟩) N3 cap3]] w fun e W' => ∃ (ok : Bool) (m' : Nat → Nat → Nat) (h' : Nat), e = .returned (.bool ok) ∧ St L X b0 g s n u h' m' W' ∧ (∀ S o, ¬ (Prt.mk S1 B1 N1 cap1 O1 Rc Cc T1).has S o → ¬ (S = s ∧ u ≤ o) → m' S o = m S o) ∧
      (ok = true → ∀ i j, i < 2 * p → j < 2 * r → (Prt.mk S1 B1 N1 cap1 O1 Rc Cc T1).get m' i j = qd p r (bl (pr (sevN cut p q r) p q r ((Prt.mk S2 B2 N2 cap2 O2 Ra Ca T2).get m) ((Prt.mk S3 B3 N3 cap3 O3 Rb Cb T3).get m))) i j) ∧ (ok = false → ∃ x, 1 ≤ x ∧ x ≤ 7 ∧ Bad p r (pr (sevN cut p q r) p q r ((Prt.mk S2 B2 N2 cap2 O2 Ra Ca T2).get m) ((Prt.mk S3 B3 N3 cap3 O3 Rb Cb T3).get m) x)) ∧ h ≤ h' ∧ h' ≤ max h (u + (p * q + q * r + 2 * p * r) + needN p q r cut) ∧ Kq X g w W' := by
  have hu : u + (p * q + q * r + 2 * p * r) ≤ n := by omega
  have HGV := Lib.hid (And.intro hM (And.intro hL (And.intro dA (And.intro dB (And.intro fA (And.intro fB (And.intro fC hun)))))))
  clear hM hL dA dB fA fB fC hun
  have HQ1 : Hid (∃ Q1 Q2 Q3 Q4 : Nat, Q1 = O1 + 0 * T1 + 0 ∧ Q2 = O1 + 0 * T1 + r ∧ Q3 = O1 + p * T1 + 0 ∧ Q4 = O1 + p * T1 + r ∧ ∀ W : World, Calls Try.prog 99 #[.agg #[.int .i64 (Rc : Int), .int .i64 (Cc : Int), .int .i64 (T1 : Int), .int .i64 (O1 : Int), .slice (some ⟨S1, B1, none⟩) N1 cap1]] W fun e W' => e = .returned (.tuple #[.agg #[.int .i64 (p : Int), .int .i64 (r : Int), .int .i64 (T1 : Int), .int .i64 (Q1 : Int), .slice (some ⟨S1, B1, none⟩) N1 cap1], .agg #[.int .i64 (p : Int), .int .i64 (r : Int), .int .i64 (T1 : Int), .int .i64 (Q2 : Int), .slice (some ⟨S1, B1, none⟩) N1 cap1], .agg #[.int .i64 (p : Int), .int .i64 (r : Int), .int .i64 (T1 : Int), .int .i64 (Q3 : Int), .slice (some ⟨S1, B1, none⟩) N1 cap1], .agg #[.int .i64 (p : Int), .int .i64 (r : Int), .int .i64 (T1 : Int), .int .i64 (Q4 : Int), .slice (some ⟨S1, B1, none⟩) N1 cap1]]) ∧ Below W.heap.size W W') := Lib.hid ⟨_, _, _, _, rfl, rfl, rfl, rfl, fun W => wi_quarters h1 (by dsimp only; omega) (by dsimp only; omega) (by omega) (by omega)⟩
  obtain ⟨Q11, Q12, Q13, Q14, e11, e12, e13, e14, hq1⟩ := HQ1.out
  have HE1 := Lib.hid (And.intro e11 (And.intro e12 (And.intro e13 e14)))
  have HQQ1 := Lib.hid hq1
  clear HQ1 e11 e12 e13 e14 hq1
  have HQ2 : Hid (∃ Q1 Q2 Q3 Q4 : Nat, Q1 = O2 + 0 * T2 + 0 ∧ Q2 = O2 + 0 * T2 + q ∧ Q3 = O2 + p * T2 + 0 ∧ Q4 = O2 + p * T2 + q ∧ ∀ W : World, Calls Try.prog 99 #[.agg #[.int .i64 (Ra : Int), .int .i64 (Ca : Int), .int .i64 (T2 : Int), .int .i64 (O2 : Int), .slice (some ⟨S2, B2, none⟩) N2 cap2]] W fun e W' => e = .returned (.tuple #[.agg #[.int .i64 (p : Int), .int .i64 (q : Int), .int .i64 (T2 : Int), .int .i64 (Q1 : Int), .slice (some ⟨S2, B2, none⟩) N2 cap2], .agg #[.int .i64 (p : Int), .int .i64 (q : Int), .int .i64 (T2 : Int), .int .i64 (Q2 : Int), .slice (some ⟨S2, B2, none⟩) N2 cap2], .agg #[.int .i64 (p : Int), .int .i64 (q : Int), .int .i64 (T2 : Int), .int .i64 (Q3 : Int), .slice (some ⟨S2, B2, none⟩) N2 cap2], .agg #[.int .i64 (p : Int), .int .i64 (q : Int), .int .i64 (T2 : Int), .int .i64 (Q4 : Int), .slice (some ⟨S2, B2, none⟩) N2 cap2]]) ∧ Below W.heap.size W W') := Lib.hid ⟨_, _, _, _, rfl, rfl, rfl, rfl, fun W => wi_quarters h2 (by dsimp only; omega) (by dsimp only; omega) (by omega) (by omega)⟩
  obtain ⟨Q21, Q22, Q23, Q24, e21, e22, e23, e24, hq2⟩ := HQ2.out
  have HE2 := Lib.hid (And.intro e21 (And.intro e22 (And.intro e23 e24)))
  have HQQ2 := Lib.hid hq2
  clear HQ2 e21 e22 e23 e24 hq2
  have HQ3 : Hid (∃ Q1 Q2 Q3 Q4 : Nat, Q1 = O3 + 0 * T3 + 0 ∧ Q2 = O3 + 0 * T3 + r ∧ Q3 = O3 + q * T3 + 0 ∧ Q4 = O3 + q * T3 + r ∧ ∀ W : World, Calls Try.prog 99 #[.agg #[.int .i64 (Rb : Int), .int .i64 (Cb : Int), .int .i64 (T3 : Int), .int .i64 (O3 : Int), .slice (some ⟨S3, B3, none⟩) N3 cap3]] W fun e W' => e = .returned (.tuple #[.agg #[.int .i64 (q : Int), .int .i64 (r : Int), .int .i64 (T3 : Int), .int .i64 (Q1 : Int), .slice (some ⟨S3, B3, none⟩) N3 cap3], .agg #[.int .i64 (q : Int), .int .i64 (r : Int), .int .i64 (T3 : Int), .int .i64 (Q2 : Int), .slice (some ⟨S3, B3, none⟩) N3 cap3], .agg #[.int .i64 (q : Int), .int .i64 (r : Int), .int .i64 (T3 : Int), .int .i64 (Q3 : Int), .slice (some ⟨S3, B3, none⟩) N3 cap3], .agg #[.int .i64 (q : Int), .int .i64 (r : Int), .int .i64 (T3 : Int), .int .i64 (Q4 : Int), .slice (some ⟨S3, B3, none⟩) N3 cap3]]) ∧ Below W.heap.size W W') := Lib.hid ⟨_, _, _, _, rfl, rfl, rfl, rfl, fun W => wi_quarters h3 (by dsimp only; omega) (by dsimp only; omega) (by omega) (by omega)⟩
  obtain ⟨Q31, Q32, Q33, Q34, e31, e32, e33, e34, hq3⟩ := HQ3.out
  have HE3 := Lib.hid (And.intro e31 (And.intro e32 (And.intro e33 e34)))
  have HQQ3 := Lib.hid hq3
  clear HQ3 e31 e32 e33 e34 hq3
  have HIN := Lib.hid (And.intro h1 (And.intro h2 h3))
  have HSZ := Lib.hid (And.intro (And.intro ra (And.intro ca (And.intro rb (And.intro cb (And.intro rc cc))))) (And.intro hp (And.intro hq (And.intro hr (And.intro hX (And.intro hXs hu))))))
  have HS0 := Lib.hid hs
  have HLT : Hid (∀ S o, L S o → S < w.heap.size) := Lib.hid (fun S o hl => hs.me.lt S o hl)
  have HFR : Hid ((∀ S, X S → S < w.heap.size) ∧ g < w.heap.size ∧ s < w.heap.size) := Lib.hid ⟨fun S hS => (hs.me.wb S hS).lt, hs.lt2⟩
  obtain ⟨B0, G0, G1, hw⟩ := vboxm w #[.pointer (some ⟨g, 0, none⟩), .int .i64 (cut : Int)] #[.int .i64 (Rc : Int), .int .i64 (Cc : Int), .int .i64 (T1 : Int), .int .i64 (O1 : Int), .slice (some ⟨S1, B1, none⟩) N1 cap1] 79 82 _ rfl
  obtain ⟨j2, G2⟩ := mbox ((w.alloc (.cells #[.pointer (some ⟨g, 0, none⟩), .int .i64 (cut : Int)] 79)).alloc (.cells #[.int .i64 (Rc : Int), .int .i64 (Cc : Int), .int .i64 (T1 : Int), .int .i64 (O1 : Int), .slice (some ⟨S1, B1, none⟩) N1 cap1] 82)) #[.int .i64 (Ra : Int), .int .i64 (Ca : Int), .int .i64 (T2 : Int), .int .i64 (O2 : Int), .slice (some ⟨S2, B2, none⟩) N2 cap2] 82 _ rfl
  replace G0 := G0.behind j2
  replace G1 := G1.behind j2
  replace B0 := below_both B0 j2
  obtain ⟨j3, G3⟩ := mbox (((w.alloc (.cells #[.pointer (some ⟨g, 0, none⟩), .int .i64 (cut : Int)] 79)).alloc (.cells #[.int .i64 (Rc : Int), .int .i64 (Cc : Int), .int .i64 (T1 : Int), .int .i64 (O1 : Int), .slice (some ⟨S1, B1, none⟩) N1 cap1] 82)).alloc (.cells #[.int .i64 (Ra : Int), .int .i64 (Ca : Int), .int .i64 (T2 : Int), .int .i64 (O2 : Int), .slice (some ⟨S2, B2, none⟩) N2 cap2] 82)) #[.int .i64 (Rb : Int), .int .i64 (Cb : Int), .int .i64 (T3 : Int), .int .i64 (O3 : Int), .slice (some ⟨S3, B3, none⟩) N3 cap3] 82 _ rfl
  replace G0 := G0.behind j3
  replace G1 := G1.behind j3
  replace G2 := G2.behind j3
  replace B0 := below_both B0 j3
  simp only [World.size_alloc] at G2 G3
  have c0 := G2.cell (i := 0) rfl
  have c1 := G2.cell (i := 1) rfl
  have c2 := G2.cell (i := 2) rfl
  have c3 := G2.cell (i := 3) rfl
  have c4 := G2.cell (i := 4) rfl
  clear hs h1 h2 h3 ra ca rb cb rc cc hp hq hr hX hXs hu hw j2 j3
  go_enter Try.func78, Try.ntmps78
  go_wp2_with fail
  generalize (((w.alloc (.cells #[.pointer (some ⟨g, 0, none⟩), .int .i64 (cut : Int)] 79)).alloc (.cells #[.int .i64 (Rc : Int), .int .i64 (Cc : Int), .int .i64 (T1 : Int), .int .i64 (O1 : Int), .slice (some ⟨S1, B1, none⟩) N1 cap1] 82)).alloc (.cells #[.int .i64 (Ra : Int), .int .i64 (Ca : Int), .int .i64 (T2 : Int), .int .i64 (O2 : Int), .slice (some ⟨S2, B2, none⟩) N2 cap2] 82)).alloc (.cells #[.int .i64 (Rb : Int), .int .i64 (Cb : Int), .int .i64 (T3 : Int), .int .i64 (O3 : Int), .slice (some ⟨S3, B3, none⟩) N3 cap3] 82) = W0 at *
  refine (HQQ2.out _).mono ?_
  rintro e w1 ⟨rfl, b1⟩
  have hs1 : ∃ k1 k2 k3 k4 : Nat, k1 = w1.heap.size ∧ k2 = w1.heap.size + 1 ∧ k3 = w1.heap.size + 1 + 1 ∧ k4 = w1.heap.size + 1 + 1 + 1 := ⟨_, _, _, _, rfl, rfl, rfl, rfl⟩
  obtain ⟨k21, k22, k23, k24, f21, f22, f23, f24⟩ := hs1
  replace G0 := G0.behind b1
  replace G1 := G1.behind b1
  replace G2 := G2.behind b1
  replace G3 := G3.behind b1
  replace B0 := below_both B0 b1
  have hq2 := G3.lt
  obtain ⟨jj, K21⟩ := mbox w1 #[.int .i64 (p : Int), .int .i64 (q : Int), .int .i64 (T2 : Int), .int .i64 (Q21 : Int), .slice (some ⟨S2, B2, none⟩) N2 cap2] 82 _ rfl
  replace G0 := G0.behind jj
  replace G1 := G1.behind jj
  replace G2 := G2.behind jj
  replace G3 := G3.behind jj
  replace B0 := below_both B0 jj
  clear jj
  obtain ⟨jj, K22⟩ := mbox (w1.alloc (.cells #[.int .i64 (p : Int), .int .i64 (q : Int), .int .i64 (T2 : Int), .int .i64 (Q21 : Int), .slice (some ⟨S2, B2, none⟩) N2 cap2] 82)) #[.int .i64 (p : Int), .int .i64 (q : Int), .int .i64 (T2 : Int), .int .i64 (Q22 : Int), .slice (some ⟨S2, B2, none⟩) N2 cap2] 82 _ rfl
  replace G0 := G0.behind jj
  replace G1 := G1.behind jj
  replace G2 := G2.behind jj
  replace G3 := G3.behind jj
  replace K21 := K21.behind jj
  replace B0 := below_both B0 jj
  clear jj
  obtain ⟨jj, K23⟩ := mbox ((w1.alloc (.cells #[.int .i64 (p : Int), .int .i64 (q : Int), .int .i64 (T2 : Int), .int .i64 (Q21 : Int), .slice (some ⟨S2, B2, none⟩) N2 cap2] 82)).alloc (.cells #[.int .i64 (p : Int), .int .i64 (q : Int), .int .i64 (T2 : Int), .int .i64 (Q22 : Int), .slice (some ⟨S2, B2, none⟩) N2 cap2] 82)) #[.int .i64 (p : Int), .int .i64 (q : Int), .int .i64 (T2 : Int), .int .i64 (Q23 : Int), .slice (some ⟨S2, B2, none⟩) N2 cap2] 82 _ rfl
  replace G0 := G0.behind jj
  replace G1 := G1.behind jj
  replace G2 := G2.behind jj
  replace G3 := G3.behind jj
  replace K21 := K21.behind jj
  replace K22 := K22.behind jj
  replace B0 := below_both B0 jj
  clear jj
  obtain ⟨jj, K24⟩ := mbox (((w1.alloc (.cells #[.int .i64 (p : Int), .int .i64 (q : Int), .int .i64 (T2 : Int), .int .i64 (Q21 : Int), .slice (some ⟨S2, B2, none⟩) N2 cap2] 82)).alloc (.cells #[.int .i64 (p : Int), .int .i64 (q : Int), .int .i64 (T2 : Int), .int .i64 (Q22 : Int), .slice (some ⟨S2, B2, none⟩) N2 cap2] 82)).alloc (.cells #[.int .i64 (p : Int), .int .i64 (q : Int), .int .i64 (T2 : Int), .int .i64 (Q23 : Int), .slice (some ⟨S2, B2, none⟩) N2 cap2] 82)) #[.int .i64 (p : Int), .int .i64 (q : Int), .int .i64 (T2 : Int), .int .i64 (Q24 : Int), .slice (some ⟨S2, B2, none⟩) N2 cap2] 82 _ rfl
  replace G0 := G0.behind jj
  replace G1 := G1.behind jj
  replace G2 := G2.behind jj
  replace G3 := G3.behind jj
  replace K21 := K21.behind jj
  replace K22 := K22.behind jj
  replace K23 := K23.behind jj
  replace B0 := below_both B0 jj
  clear jj
  simp only [World.size_alloc] at K22 K23 K24
  clear c0 c1 c2 c3 c4 b1
  have d0 := G3.cell (i := 0) rfl
  have d1 := G3.cell (i := 1) rfl
  have d2 := G3.cell (i := 2) rfl
  have d3 := G3.cell (i := 3) rfl
  have d4 := G3.cell (i := 4) rfl
  go_wp2_with fail
  generalize ((((w1.alloc (.cells #[.int .i64 (p : Int), .int .i64 (q : Int), .int .i64 (T2 : Int), .int .i64 (Q21 : Int), .slice (some ⟨S2, B2, none⟩) N2 cap2] 82)).alloc (.cells #[.int .i64 (p : Int), .int .i64 (q : Int), .int .i64 (T2 : Int), .int .i64 (Q22 : Int), .slice (some ⟨S2, B2, none⟩) N2 cap2] 82)).alloc (.cells #[.int .i64 (p : Int), .int .i64 (q : Int), .int .i64 (T2 : Int), .int .i64 (Q23 : Int), .slice (some ⟨S2, B2, none⟩) N2 cap2] 82)).alloc (.cells #[.int .i64 (p : Int), .int .i64 (q : Int), .int .i64 (T2 : Int), .int .i64 (Q24 : Int), .slice (some ⟨S2, B2, none⟩) N2 cap2] 82)) = V1 at *
  rw [← f24] at K24 ⊢
  rw [← f23] at K23 ⊢
  rw [← f22] at K22 ⊢
  rw [← f21] at K21 ⊢
  have HF2 : Hid (w.heap.size + 4 ≤ k21 ∧ k22 = k21 + 1 ∧ k23 = k21 + 2 ∧ k24 = k21 + 3) := Lib.hid (by omega)
  clear hq2 f21 f22 f23 f24
  refine (HQQ3.out _).mono ?_
  rintro e w2 ⟨rfl, b2⟩
  have hs2 : ∃ k1 k2 k3 k4 : Nat, k1 = w2.heap.size ∧ k2 = w2.heap.size + 1 ∧ k3 = w2.heap.size + 1 + 1 ∧ k4 = w2.heap.size + 1 + 1 + 1 := ⟨_, _, _, _, rfl, rfl, rfl, rfl⟩
  obtain ⟨k31, k32, k33, k34, f31, f32, f33, f34⟩ := hs2
  replace G0 := G0.behind b2
  replace G1 := G1.behind b2
  replace G2 := G2.behind b2
  replace G3 := G3.behind b2
  replace K21 := K21.behind b2
  replace K22 := K22.behind b2
  replace K23 := K23.behind b2
  replace K24 := K24.behind b2
  replace B0 := below_both B0 b2
  have hq3 := G3.lt
  obtain ⟨jj, K31⟩ := mbox w2 #[.int .i64 (q : Int), .int .i64 (r : Int), .int .i64 (T3 : Int), .int .i64 (Q31 : Int), .slice (some ⟨S3, B3, none⟩) N3 cap3] 82 _ rfl
  replace G0 := G0.behind jj
  replace G1 := G1.behind jj
  replace G2 := G2.behind jj
  replace G3 := G3.behind jj
  replace K21 := K21.behind jj
  replace K22 := K22.behind jj
  replace K23 := K23.behind jj
  replace K24 := K24.behind jj
  replace B0 := below_both B0 jj
  clear jj
  obtain ⟨jj, K32⟩ := mbox (w2.alloc (.cells #[.int .i64 (q : Int), .int .i64 (r : Int), .int .i64 (T3 : Int), .int .i64 (Q31 : Int), .slice (some ⟨S3, B3, none⟩) N3 cap3] 82)) #[.int .i64 (q : Int), .int .i64 (r : Int), .int .i64 (T3 : Int), .int .i64 (Q32 : Int), .slice (some ⟨S3, B3, none⟩) N3 cap3] 82 _ rfl
  replace G0 := G0.behind jj
  replace G1 := G1.behind jj
  replace G2 := G2.behind jj
  replace G3 := G3.behind jj
  replace K21 := K21.behind jj
  replace K22 := K22.behind jj
  replace K23 := K23.behind jj
  replace K24 := K24.behind jj
  replace K31 := K31.behind jj
  replace B0 := below_both B0 jj
  clear jj
  obtain ⟨jj, K33⟩ := mbox ((w2.alloc (.cells #[.int .i64 (q : Int), .int .i64 (r : Int), .int .i64 (T3 : Int), .int .i64 (Q31 : Int), .slice (some ⟨S3, B3, none⟩) N3 cap3] 82)).alloc (.cells #[.int .i64 (q : Int), .int .i64 (r : Int), .int .i64 (T3 : Int), .int .i64 (Q32 : Int), .slice (some ⟨S3, B3, none⟩) N3 cap3] 82)) #[.int .i64 (q : Int), .int .i64 (r : Int), .int .i64 (T3 : Int), .int .i64 (Q33 : Int), .slice (some ⟨S3, B3, none⟩) N3 cap3] 82 _ rfl
  replace G0 := G0.behind jj
  replace G1 := G1.behind jj
  replace G2 := G2.behind jj
  replace G3 := G3.behind jj
  replace K21 := K21.behind jj
  replace K22 := K22.behind jj
  replace K23 := K23.behind jj
  replace K24 := K24.behind jj
  replace K31 := K31.behind jj
  replace K32 := K32.behind jj
  replace B0 := below_both B0 jj
  clear jj
  obtain ⟨jj, K34⟩ := mbox (((w2.alloc (.cells #[.int .i64 (q : Int), .int .i64 (r : Int), .int .i64 (T3 : Int), .int .i64 (Q31 : Int), .slice (some ⟨S3, B3, none⟩) N3 cap3] 82)).alloc (.cells #[.int .i64 (q : Int), .int .i64 (r : Int), .int .i64 (T3 : Int), .int .i64 (Q32 : Int), .slice (some ⟨S3, B3, none⟩) N3 cap3] 82)).alloc (.cells #[.int .i64 (q : Int), .int .i64 (r : Int), .int .i64 (T3 : Int), .int .i64 (Q33 : Int), .slice (some ⟨S3, B3, none⟩) N3 cap3] 82)) #[.int .i64 (q : Int), .int .i64 (r : Int), .int .i64 (T3 : Int), .int .i64 (Q34 : Int), .slice (some ⟨S3, B3, none⟩) N3 cap3] 82 _ rfl
  replace G0 := G0.behind jj
  replace G1 := G1.behind jj
  replace G2 := G2.behind jj
  replace G3 := G3.behind jj
  replace K21 := K21.behind jj
  replace K22 := K22.behind jj
  replace K23 := K23.behind jj
  replace K24 := K24.behind jj
  replace K31 := K31.behind jj
  replace K32 := K32.behind jj
  replace K33 := K33.behind jj
  replace B0 := below_both B0 jj
  clear jj
  simp only [World.size_alloc] at K32 K33 K34
  clear d0 d1 d2 d3 d4 b2
  have e0 := G1.cell (i := 0) rfl
  have e1 := G1.cell (i := 1) rfl
  have e2 := G1.cell (i := 2) rfl
  have e3 := G1.cell (i := 3) rfl
  have e4 := G1.cell (i := 4) rfl
  go_wp2_with fail
  generalize ((((w2.alloc (.cells #[.int .i64 (q : Int), .int .i64 (r : Int), .int .i64 (T3 : Int), .int .i64 (Q31 : Int), .slice (some ⟨S3, B3, none⟩) N3 cap3] 82)).alloc (.cells #[.int .i64 (q : Int), .int .i64 (r : Int), .int .i64 (T3 : Int), .int .i64 (Q32 : Int), .slice (some ⟨S3, B3, none⟩) N3 cap3] 82)).alloc (.cells #[.int .i64 (q : Int), .int .i64 (r : Int), .int .i64 (T3 : Int), .int .i64 (Q33 : Int), .slice (some ⟨S3, B3, none⟩) N3 cap3] 82)).alloc (.cells #[.int .i64 (q : Int), .int .i64 (r : Int), .int .i64 (T3 : Int), .int .i64 (Q34 : Int), .slice (some ⟨S3, B3, none⟩) N3 cap3] 82)) = V2 at *
  rw [← f34] at K34 ⊢
  rw [← f33] at K33 ⊢
  rw [← f32] at K32 ⊢
  rw [← f31] at K31 ⊢
  have HF3 : Hid (w.heap.size + 4 ≤ k31 ∧ k32 = k31 + 1 ∧ k33 = k31 + 2 ∧ k34 = k31 + 3) := Lib.hid (by omega)
  clear hq3 f31 f32 f33 f34
  refine (HQQ1.out _).mono ?_
  rintro e w3 ⟨rfl, b3⟩
  have hs3 : ∃ k1 k2 k3 k4 : Nat, k1 = w3.heap.size ∧ k2 = w3.heap.size + 1 ∧ k3 = w3.heap.size + 1 + 1 ∧ k4 = w3.heap.size + 1 + 1 + 1 := ⟨_, _, _, _, rfl, rfl, rfl, rfl⟩
  obtain ⟨k11, k12, k13, k14, f11, f12, f13, f14⟩ := hs3
  replace G0 := G0.behind b3
  replace G1 := G1.behind b3
  replace G2 := G2.behind b3
  replace G3 := G3.behind b3
  replace K21 := K21.behind b3
  replace K22 := K22.behind b3
  replace K23 := K23.behind b3
  replace K24 := K24.behind b3
  replace K31 := K31.behind b3
  replace K32 := K32.behind b3
  replace K33 := K33.behind b3
  replace K34 := K34.behind b3
  replace B0 := below_both B0 b3
  have hq1 := G3.lt
  obtain ⟨jj, K11⟩ := mbox w3 #[.int .i64 (p : Int), .int .i64 (r : Int), .int .i64 (T1 : Int), .int .i64 (Q11 : Int), .slice (some ⟨S1, B1, none⟩) N1 cap1] 82 _ rfl
  replace G0 := G0.behind jj
  replace G1 := G1.behind jj
  replace G2 := G2.behind jj
  replace G3 := G3.behind jj
  replace K21 := K21.behind jj
  replace K22 := K22.behind jj
  replace K23 := K23.behind jj
  replace K24 := K24.behind jj
  replace K31 := K31.behind jj
  replace K32 := K32.behind jj
  replace K33 := K33.behind jj
  replace K34 := K34.behind jj
  replace B0 := below_both B0 jj
  clear jj
  obtain ⟨jj, K12⟩ := mbox (w3.alloc (.cells #[.int .i64 (p : Int), .int .i64 (r : Int), .int .i64 (T1 : Int), .int .i64 (Q11 : Int), .slice (some ⟨S1, B1, none⟩) N1 cap1] 82)) #[.int .i64 (p : Int), .int .i64 (r : Int), .int .i64 (T1 : Int), .int .i64 (Q12 : Int), .slice (some ⟨S1, B1, none⟩) N1 cap1] 82 _ rfl
  replace G0 := G0.behind jj
  replace G1 := G1.behind jj
  replace G2 := G2.behind jj
  replace G3 := G3.behind jj
  replace K21 := K21.behind jj
  replace K22 := K22.behind jj
  replace K23 := K23.behind jj
  replace K24 := K24.behind jj
  replace K31 := K31.behind jj
  replace K32 := K32.behind jj
  replace K33 := K33.behind jj
  replace K34 := K34.behind jj
  replace K11 := K11.behind jj
  replace B0 := below_both B0 jj
  clear jj
  obtain ⟨jj, K13⟩ := mbox ((w3.alloc (.cells #[.int .i64 (p : Int), .int .i64 (r : Int), .int .i64 (T1 : Int), .int .i64 (Q11 : Int), .slice (some ⟨S1, B1, none⟩) N1 cap1] 82)).alloc (.cells #[.int .i64 (p : Int), .int .i64 (r : Int), .int .i64 (T1 : Int), .int .i64 (Q12 : Int), .slice (some ⟨S1, B1, none⟩) N1 cap1] 82)) #[.int .i64 (p : Int), .int .i64 (r : Int), .int .i64 (T1 : Int), .int .i64 (Q13 : Int), .slice (some ⟨S1, B1, none⟩) N1 cap1] 82 _ rfl
  replace G0 := G0.behind jj
  replace G1 := G1.behind jj
  replace G2 := G2.behind jj
  replace G3 := G3.behind jj
  replace K21 := K21.behind jj
  replace K22 := K22.behind jj
  replace K23 := K23.behind jj
  replace K24 := K24.behind jj
  replace K31 := K31.behind jj
  replace K32 := K32.behind jj
  replace K33 := K33.behind jj
  replace K34 := K34.behind jj
  replace K11 := K11.behind jj
  replace K12 := K12.behind jj
  replace B0 := below_both B0 jj
  clear jj
  obtain ⟨jj, K14⟩ := mbox (((w3.alloc (.cells #[.int .i64 (p : Int), .int .i64 (r : Int), .int .i64 (T1 : Int), .int .i64 (Q11 : Int), .slice (some ⟨S1, B1, none⟩) N1 cap1] 82)).alloc (.cells #[.int .i64 (p : Int), .int .i64 (r : Int), .int .i64 (T1 : Int), .int .i64 (Q12 : Int), .slice (some ⟨S1, B1, none⟩) N1 cap1] 82)).alloc (.cells #[.int .i64 (p : Int), .int .i64 (r : Int), .int .i64 (T1 : Int), .int .i64 (Q13 : Int), .slice (some ⟨S1, B1, none⟩) N1 cap1] 82)) #[.int .i64 (p : Int), .int .i64 (r : Int), .int .i64 (T1 : Int), .int .i64 (Q14 : Int), .slice (some ⟨S1, B1, none⟩) N1 cap1] 82 _ rfl
  replace G0 := G0.behind jj
  replace G1 := G1.behind jj
  replace G2 := G2.behind jj
  replace G3 := G3.behind jj
  replace K21 := K21.behind jj
  replace K22 := K22.behind jj
  replace K23 := K23.behind jj
  replace K24 := K24.behind jj
  replace K31 := K31.behind jj
  replace K32 := K32.behind jj
  replace K33 := K33.behind jj
  replace K34 := K34.behind jj
  replace K11 := K11.behind jj
  replace K12 := K12.behind jj
  replace K13 := K13.behind jj
  replace B0 := below_both B0 jj
  clear jj
  simp only [World.size_alloc] at K12 K13 K14
  clear e0 e1 e2 e3 e4 b3
  go_upto_region 4 with (fail)
  generalize ((((w3.alloc (.cells #[.int .i64 (p : Int), .int .i64 (r : Int), .int .i64 (T1 : Int), .int .i64 (Q11 : Int), .slice (some ⟨S1, B1, none⟩) N1 cap1] 82)).alloc (.cells #[.int .i64 (p : Int), .int .i64 (r : Int), .int .i64 (T1 : Int), .int .i64 (Q12 : Int), .slice (some ⟨S1, B1, none⟩) N1 cap1] 82)).alloc (.cells #[.int .i64 (p : Int), .int .i64 (r : Int), .int .i64 (T1 : Int), .int .i64 (Q13 : Int), .slice (some ⟨S1, B1, none⟩) N1 cap1] 82)).alloc (.cells #[.int .i64 (p : Int), .int .i64 (r : Int), .int .i64 (T1 : Int), .int .i64 (Q14 : Int), .slice (some ⟨S1, B1, none⟩) N1 cap1] 82)) = V3 at *
  rw [← f14] at K14 ⊢
  rw [← f13] at K13 ⊢
  rw [← f12] at K12 ⊢
  rw [← f11] at K11 ⊢
  have HF1 : Hid (w.heap.size + 4 ≤ k11 ∧ k12 = k11 + 1 ∧ k13 = k11 + 2 ∧ k14 = k11 + 3) := Lib.hid (by omega)
  clear hq1 f11 f12 f13 f14
  have HM : Hid (∀ W, Kq X g V3 W → Ms W w.heap.size #[.pointer (some ⟨g, 0, none⟩), .int .i64 (cut : Int)] 79 ∧ Ms W k21 #[.int .i64 (p : Int), .int .i64 (q : Int), .int .i64 (T2 : Int), .int .i64 (Q21 : Int), .slice (some ⟨S2, B2, none⟩) N2 cap2] 82 ∧ Ms W k22 #[.int .i64 (p : Int), .int .i64 (q : Int), .int .i64 (T2 : Int), .int .i64 (Q22 : Int), .slice (some ⟨S2, B2, none⟩) N2 cap2] 82 ∧ Ms W k23 #[.int .i64 (p : Int), .int .i64 (q : Int), .int .i64 (T2 : Int), .int .i64 (Q23 : Int), .slice (some ⟨S2, B2, none⟩) N2 cap2] 82 ∧ Ms W k24 #[.int .i64 (p : Int), .int .i64 (q : Int), .int .i64 (T2 : Int), .int .i64 (Q24 : Int), .slice (some ⟨S2, B2, none⟩) N2 cap2] 82 ∧ Ms W k31 #[.int .i64 (q : Int), .int .i64 (r : Int), .int .i64 (T3 : Int), .int .i64 (Q31 : Int), .slice (some ⟨S3, B3, none⟩) N3 cap3] 82 ∧ Ms W k32 #[.int .i64 (q : Int), .int .i64 (r : Int), .int .i64 (T3 : Int), .int .i64 (Q32 : Int), .slice (some ⟨S3, B3, none⟩) N3 cap3] 82 ∧ Ms W k33 #[.int .i64 (q : Int), .int .i64 (r : Int), .int .i64 (T3 : Int), .int .i64 (Q33 : Int), .slice (some ⟨S3, B3, none⟩) N3 cap3] 82 ∧ Ms W k34 #[.int .i64 (q : Int), .int .i64 (r : Int), .int .i64 (T3 : Int), .int .i64 (Q34 : Int), .slice (some ⟨S3, B3, none⟩) N3 cap3] 82 ∧ Ms W k11 #[.int .i64 (p : Int), .int .i64 (r : Int), .int .i64 (T1 : Int), .int .i64 (Q11 : Int), .slice (some ⟨S1, B1, none⟩) N1 cap1] 82 ∧ Ms W k12 #[.int .i64 (p : Int), .int .i64 (r : Int), .int .i64 (T1 : Int), .int .i64 (Q12 : Int), .slice (some ⟨S1, B1, none⟩) N1 cap1] 82 ∧ Ms W k13 #[.int .i64 (p : Int), .int .i64 (r : Int), .int .i64 (T1 : Int), .int .i64 (Q13 : Int), .slice (some ⟨S1, B1, none⟩) N1 cap1] 82 ∧ Ms W k14 #[.int .i64 (p : Int), .int .i64 (r : Int), .int .i64 (T1 : Int), .int .i64 (Q14 : Int), .slice (some ⟨S1, B1, none⟩) N1 cap1] 82) := Lib.hid (fun W k => ⟨k.ms G0 (fun hh => by have := HFR.out.1 _ hh; have := HF2.out; have := HF3.out; have := HF1.out; omega) (by have := HFR.out; have := HF2.out; have := HF3.out; have := HF1.out; omega), k.ms K21 (fun hh => by have := HFR.out.1 _ hh; have := HF2.out; have := HF3.out; have := HF1.out; omega) (by have := HFR.out; have := HF2.out; have := HF3.out; have := HF1.out; omega), k.ms K22 (fun hh => by have := HFR.out.1 _ hh; have := HF2.out; have := HF3.out; have := HF1.out; omega) (by have := HFR.out; have := HF2.out; have := HF3.out; have := HF1.out; omega), k.ms K23 (fun hh => by have := HFR.out.1 _ hh; have := HF2.out; have := HF3.out; have := HF1.out; omega) (by have := HFR.out; have := HF2.out; have := HF3.out; have := HF1.out; omega), k.ms K24 (fun hh => by have := HFR.out.1 _ hh; have := HF2.out; have := HF3.out; have := HF1.out; omega) (by have := HFR.out; have := HF2.out; have := HF3.out; have := HF1.out; omega), k.ms K31 (fun hh => by have := HFR.out.1 _ hh; have := HF2.out; have := HF3.out; have := HF1.out; omega) (by have := HFR.out; have := HF2.out; have := HF3.out; have := HF1.out; omega), k.ms K32 (fun hh => by have := HFR.out.1 _ hh; have := HF2.out; have := HF3.out; have := HF1.out; omega) (by have := HFR.out; have := HF2.out; have := HF3.out; have := HF1.out; omega), k.ms K33 (fun hh => by have := HFR.out.1 _ hh; have := HF2.out; have := HF3.out; have := HF1.out; omega) (by have := HFR.out; have := HF2.out; have := HF3.out; have := HF1.out; omega), k.ms K34 (fun hh => by have := HFR.out.1 _ hh; have := HF2.out; have := HF3.out; have := HF1.out; omega) (by have := HFR.out; have := HF2.out; have := HF3.out; have := HF1.out; omega), k.ms K11 (fun hh => by have := HFR.out.1 _ hh; have := HF2.out; have := HF3.out; have := HF1.out; omega) (by have := HFR.out; have := HF2.out; have := HF3.out; have := HF1.out; omega), k.ms K12 (fun hh => by have := HFR.out.1 _ hh; have := HF2.out; have := HF3.out; have := HF1.out; omega) (by have := HFR.out; have := HF2.out; have := HF3.out; have := HF1.out; omega), k.ms K13 (fun hh => by have := HFR.out.1 _ hh; have := HF2.out; have := HF3.out; have := HF1.out; omega) (by have := HFR.out; have := HF2.out; have := HF3.out; have := HF1.out; omega), k.ms K14 (fun hh => by have := HFR.out.1 _ hh; have := HF2.out; have := HF3.out; have := HF1.out; omega) (by have := HFR.out; have := HF2.out; have := HF3.out; have := HF1.out; omega)⟩)
  have stV := HS0.out.behind B0
  have HSV := Lib.hid stV
  have HWV : Hid (w.heap.size ≤ V3.heap.size) := Lib.hid B0.size
  have HKW3 : Hid (Kq X g w V3) := Lib.hid (Kq.of B0)
  have KV := HM.out V3 (Kq.refl _ _ _)
  have l0 := KV.1.cell (i := 0) rfl
  obtain ⟨ws, hA⟩ := stV.an
  have hmk := ar_mark hA
  have HMK := Lib.hid hmk
  clear G0 K21 K22 K23 K24 K31 K32 K33 K34 K11 K12 K13 K14 G1 G2 G3 stV KV hA B0 hmk
  go_wp2_with fail
  refine HMK.out.mono ?_
  rintro e wm ⟨rfl, rfl⟩
  clear l0 HMK
  obtain ⟨PS, hPS⟩ : ∃ P, P = p * q := ⟨_, rfl⟩
  obtain ⟨PT, hPT⟩ : ∃ P, P = q * r := ⟨_, rfl⟩
  obtain ⟨PU, hPU⟩ : ∃ P, P = p * r := ⟨_, rfl⟩
  have hu := HSZ.out.2.2.2.2.2.2
  rw [Nat.mul_assoc, ← hPS, ← hPT, ← hPU] at hu
  have HPP : Hid (p * q = PS ∧ q * r = PT ∧ p * r = PU ∧ u + (PS + PT + 2 * PU) ≤ n ∧ p ≤ 64 ∧ q ≤ 64 ∧ r ≤ 64) := Lib.hid ⟨hPS.symm, hPT.symm, hPU.symm, hu, by have := HIN.out.1.r; have := HSZ.out.1; dsimp only at *; omega, by have := HIN.out.2.1.c; have := HSZ.out.1; dsimp only at *; omega, by have := HIN.out.1.c; have := HSZ.out.1; dsimp only at *; omega⟩
  have HT1 := Lib.hid (fun W (hst : St L X b0 g s n u h m W) => wi_take (cut := (cut : Int)) hst HSZ.out.2.2.2.2.2.1 ⟨HSZ.out.2.1, HPP.out.2.2.2.2.1⟩ ⟨HSZ.out.2.2.1, HPP.out.2.2.2.2.2.1⟩ HPP.out.1 (by have := HPP.out; omega))
  have HT2 := Lib.hid (fun W m' h' (hst : St L X b0 g s n (u + PS) h' m' W) => wi_take (cut := (cut : Int)) hst HSZ.out.2.2.2.2.2.1 ⟨HSZ.out.2.2.1, HPP.out.2.2.2.2.2.1⟩ ⟨HSZ.out.2.2.2.1, HPP.out.2.2.2.2.2.2⟩ HPP.out.2.1 (by have := HPP.out; omega))
  dsimp only [Prt.val] at HT1 HT2
  have HK : Hid (∀ W, Kq X g V3 W → W.cell? ⟨w.heap.size, 0, none⟩ = some (.pointer (some ⟨g, 0, none⟩)) ∧ W.cell? ⟨w.heap.size, 1, none⟩ = some (.int .i64 (cut : Int)) ∧ W.cell? ⟨k21, 0, none⟩ = some (.int .i64 (p : Int)) ∧ W.cell? ⟨k21, 1, none⟩ = some (.int .i64 (q : Int)) ∧ W.cell? ⟨k31, 0, none⟩ = some (.int .i64 (q : Int)) ∧ W.cell? ⟨k31, 1, none⟩ = some (.int .i64 (r : Int))) := Lib.hid (fun W k => ⟨(HM.out W k).1.cell (i := 0) rfl, (HM.out W k).1.cell (i := 1) rfl, (HM.out W k).2.1.cell (i := 0) rfl, (HM.out W k).2.1.cell (i := 1) rfl, (HM.out W k).2.2.2.2.2.1.cell (i := 0) rfl, (HM.out W k).2.2.2.2.2.1.cell (i := 1) rfl⟩)
  have hst := HSV.out
  have hwb := HWV.out
  clear hPS hPT hPU hu
  go_upto_region 5 with (fail)
  go_cut [22, 23] from 51 to 66 (fun x y wx => ∃ gs gt : Nat, x = .pointer (some ⟨gs, 0, none⟩) ∧ y = .pointer (some ⟨gt, 0, none⟩) ∧ V3.heap.size ≤ gs ∧ V3.heap.size ≤ gt ∧ gs ≠ gt ∧ Ms wx gs #[.int .i64 (p : Int), .int .i64 (q : Int), .int .i64 (q : Int), .int .i64 (0 : Int), .slice (some ⟨s, u, none⟩) PS PS] 82 ∧ Ms wx gt #[.int .i64 (q : Int), .int .i64 (r : Int), .int .i64 (r : Int), .int .i64 (0 : Int), .slice (some ⟨s, (u + PS), none⟩) PT PT] 82 ∧ St L X b0 g s n (u + PS + PT) (max (max h (u + PS)) (u + PS + PT)) (clM (clM m s u PS) s (u + PS) PT) wx ∧ Kq X g V3 wx)
  case first =>
    as_aux_lemma =>
    clear HM HIN HSZ HS0 HPP HE1 HE2 HE3 HQQ1 HQQ2 HQQ3 HSV HWV HF1 HF2 HF3
    refine wp_region_held_drew (S := fun W => W.cell? ⟨w.heap.size, 0, none⟩ = some (.pointer (some ⟨g, 0, none⟩)) ∧ W.cell? ⟨w.heap.size, 1, none⟩ = some (.int .i64 (cut : Int)) ∧ W.cell? ⟨k21, 0, none⟩ = some (.int .i64 (p : Int)) ∧ W.cell? ⟨k21, 1, none⟩ = some (.int .i64 (q : Int)) ∧ W.cell? ⟨k31, 0, none⟩ = some (.int .i64 (q : Int)) ∧ W.cell? ⟨k31, 1, none⟩ = some (.int .i64 (r : Int))) (by kernel_rfl) ?_ (fun hHeld => ?_)
    · (try dsimp only); exact HK.out _ (Kq.drew (Kq.refl _ _ _))
    refine wpAnyH_take (i := 0) (oi := { dst := some 51, op := _, type := _, pos := _, after := _, guard := _ }) (v := ?v0b51) rfl (by kernel_rfl) (by kernel_rfl) (by kernel_rfl) (fun _ _ _ h => h) (Or.inl ⟨by rfl, ?hy0b51⟩) (by assumption) ?rest0b51
    case hy0b51 => intro w hSw; (try dsimp only at hSw); go_simp; first | done | with_reducible rfl
    simp only [Act.put, List.setIfInBounds_toArray, List.set_cons_zero, List.set_cons_succ]
    refine wpAnyH_take (i := 1) (oi := { dst := some 52, op := _, type := _, pos := _, after := _, guard := _ }) (v := ?v1b51) rfl (by kernel_rfl) (by kernel_rfl) (by kernel_rfl) (fun _ _ _ h => h) (Or.inl ⟨by rfl, ?hy1b51⟩) (by assumption) ?rest1b51
    case hy1b51 => intro w hSw; (try dsimp only at hSw); go_simp; first | done | with_reducible rfl
    simp only [Act.put, List.setIfInBounds_toArray, List.set_cons_zero, List.set_cons_succ]
    refine wpAnyH_take (i := 2) (oi := { dst := some 53, op := _, type := _, pos := _, after := _, guard := _ }) (v := ?v2b51) rfl (by kernel_rfl) (by kernel_rfl) (by kernel_rfl) (fun _ _ _ h => h) (Or.inl ⟨by rfl, ?hy2b51⟩) (by assumption) ?rest2b51
    case hy2b51 => intro w hSw; (try dsimp only at hSw); go_simp; first | done | with_reducible rfl
    simp only [Act.put, List.setIfInBounds_toArray, List.set_cons_zero, List.set_cons_succ]
    refine wpAnyH_take (i := 3) (oi := { dst := some 54, op := _, type := _, pos := _, after := _, guard := _ }) (v := ?v3b51) rfl (by kernel_rfl) (by kernel_rfl) (by kernel_rfl) (fun _ _ _ h => h) (Or.inl ⟨by rfl, ?hy3b51⟩) (by assumption) ?rest3b51
    case hy3b51 => intro w hSw; (try dsimp only at hSw); go_simp; first | done | with_reducible rfl
    simp only [Act.put, List.setIfInBounds_toArray, List.set_cons_zero, List.set_cons_succ]
    refine wpAnyH_take (i := 4) (oi := { dst := some 55, op := _, type := _, pos := _, after := _, guard := _ }) (v := ?v4b51) rfl (by kernel_rfl) (by kernel_rfl) (by kernel_rfl) (fun _ _ _ h => h) (Or.inl ⟨by rfl, ?hy4b51⟩) (by assumption) ?rest4b51
    case hy4b51 => intro w hSw; (try dsimp only at hSw); go_simp; first | done | with_reducible rfl
    simp only [Act.put, List.setIfInBounds_toArray, List.set_cons_zero, List.set_cons_succ]
    refine wpAnyH_take (i := 5) (oi := { dst := some 56, op := _, type := _, pos := _, after := _, guard := _ }) (v := ?v5b51) rfl (by kernel_rfl) (by kernel_rfl) (by kernel_rfl) (fun _ _ _ h => h) (Or.inl ⟨by rfl, ?hy5b51⟩) (by assumption) ?rest5b51
    case hy5b51 => intro w hSw; (try dsimp only at hSw); go_simp; first | done | with_reducible rfl
    simp only [Act.put, List.setIfInBounds_toArray, List.set_cons_zero, List.set_cons_succ]
    refine wpAnyH_take (i := 6) (oi := { dst := some 57, op := _, type := _, pos := _, after := _, guard := _ }) (v := ?v6b51) rfl (by kernel_rfl) (by kernel_rfl) (by kernel_rfl) (fun _ _ _ h => h) (Or.inl ⟨by rfl, ?hy6b51⟩) (by assumption) ?rest6b51
    case hy6b51 => intro w hSw; (try dsimp only at hSw); go_simp; first | done | with_reducible rfl
    simp only [Act.put, List.setIfInBounds_toArray, List.set_cons_zero, List.set_cons_succ]
    refine wpAnyH_take (i := 8) (oi := { dst := some 59, op := _, type := _, pos := _, after := _, guard := _ }) (v := ?v8b51) rfl (by kernel_rfl) (by kernel_rfl) (by kernel_rfl) (fun _ _ _ h => h) (Or.inl ⟨by rfl, ?hy8b51⟩) (by assumption) ?rest8b51
    case hy8b51 => intro w hSw; (try dsimp only at hSw); go_simp; first | done | with_reducible rfl
    simp only [Act.put, List.setIfInBounds_toArray, List.set_cons_zero, List.set_cons_succ]
    refine wpAnyH_take (i := 9) (oi := { dst := some 60, op := _, type := _, pos := _, after := _, guard := _ }) (v := ?v9b51) rfl (by kernel_rfl) (by kernel_rfl) (by kernel_rfl) (fun _ _ _ h => h) (Or.inl ⟨by rfl, ?hy9b51⟩) (by assumption) ?rest9b51
    case hy9b51 => intro w hSw; (try dsimp only at hSw); go_simp; first | done | with_reducible rfl
    simp only [Act.put, List.setIfInBounds_toArray, List.set_cons_zero, List.set_cons_succ]
    refine wpAnyH_take (i := 10) (oi := { dst := some 61, op := _, type := _, pos := _, after := _, guard := _ }) (v := ?v10b51) rfl (by kernel_rfl) (by kernel_rfl) (by kernel_rfl) (fun _ _ _ h => h) (Or.inl ⟨by rfl, ?hy10b51⟩) (by assumption) ?rest10b51
    case hy10b51 => intro w hSw; (try dsimp only at hSw); go_simp; first | done | with_reducible rfl
    simp only [Act.put, List.setIfInBounds_toArray, List.set_cons_zero, List.set_cons_succ]
    refine wpAnyH_take (i := 11) (oi := { dst := some 62, op := _, type := _, pos := _, after := _, guard := _ }) (v := ?v11b51) rfl (by kernel_rfl) (by kernel_rfl) (by kernel_rfl) (fun _ _ _ h => h) (Or.inl ⟨by rfl, ?hy11b51⟩) (by assumption) ?rest11b51
    case hy11b51 => intro w hSw; (try dsimp only at hSw); go_simp; first | done | with_reducible rfl
    simp only [Act.put, List.setIfInBounds_toArray, List.set_cons_zero, List.set_cons_succ]
    refine wpAnyH_take (i := 12) (oi := { dst := some 63, op := _, type := _, pos := _, after := _, guard := _ }) (v := ?v12b51) rfl (by kernel_rfl) (by kernel_rfl) (by kernel_rfl) (fun _ _ _ h => h) (Or.inl ⟨by rfl, ?hy12b51⟩) (by assumption) ?rest12b51
    case hy12b51 => intro w hSw; (try dsimp only at hSw); go_simp; first | done | with_reducible rfl
    simp only [Act.put, List.setIfInBounds_toArray, List.set_cons_zero, List.set_cons_succ]
    refine wpAnyH_take (i := 13) (oi := { dst := some 64, op := _, type := _, pos := _, after := _, guard := _ }) (v := ?v13b51) rfl (by kernel_rfl) (by kernel_rfl) (by kernel_rfl) (fun _ _ _ h => h) (Or.inl ⟨by rfl, ?hy13b51⟩) (by assumption) ?rest13b51
    case hy13b51 => intro w hSw; (try dsimp only at hSw); go_simp; first | done | with_reducible rfl
    simp only [Act.put, List.setIfInBounds_toArray, List.set_cons_zero, List.set_cons_succ]
    refine wpAnyH_take (i := 14) (oi := { dst := some 65, op := _, type := _, pos := _, after := _, guard := _ }) (v := ?v14b51) rfl (by kernel_rfl) (by kernel_rfl) (by kernel_rfl) (fun _ _ _ h => h) (Or.inl ⟨by rfl, ?hy14b51⟩) (by assumption) ?rest14b51
    case hy14b51 => intro w hSw; (try dsimp only at hSw); go_simp; first | done | with_reducible rfl
    simp only [Act.put, List.setIfInBounds_toArray, List.set_cons_zero, List.set_cons_succ]
    have kq0 : Kq X g V3 V3.drew := Kq.drew (Kq.refl _ _ _)
    have st0 := St.drew hst
    apply join_law (φ := fun g1 g2 v => V3.heap.size ≤ g1 ∧ V3.heap.size ≤ g2 ∧ g1 ≠ g2 ∧ Ms v g1 #[.int .i64 0, .int .i64 0, .int .i64 0, .int .i64 0, .slice none 0 0] 82 ∧ Ms v g2 #[.int .i64 0, .int .i64 0, .int .i64 0, .int .i64 0, .slice none 0 0] 82 ∧ St L X b0 g s n (u + PS + PT) (max (max h (u + PS)) (u + PS + PT)) (clM (clM m s u PS) s (u + PS) PT) v ∧ Kq X g V3 v) (l2 := #[true, true, true, true, true, true, true, true, true, true, true, true, true, true, true, true, true, true, false, false])
    case main =>
      intro LEAF
      refine wpAnyH_ready (rs := [7, 16, 17]) (by kernel_rfl) (by simp) ?_
      refine AllReadyH.cons rfl (fun K hK => ?_) (AllReadyH.cons rfl (fun K hK => ?_) (AllReadyH.cons rfl (fun K hK => ?_) AllReadyH.nil))
      · go_simp
        refine (HT1.out _ st0).mono ?_
        rintro e vx1 ⟨rfl, st1, kz⟩
        have kq1 := kq0.trans kz
        refine hK.out _ _ ?_ (fun hHeld => ?_)
        · exact HK.out _ kq1
        clear hK K kz
        try simp only [Act.put, List.setIfInBounds_toArray, List.set_cons_zero, List.set_cons_succ]
        refine wpAnyH_ready (rs := [15, 16, 17]) (by kernel_rfl) (by simp) ?_
        refine AllReadyH.cons rfl (fun K hK => ?_) (AllReadyH.cons rfl (fun K hK => ?_) (AllReadyH.cons rfl (fun K hK => ?_) AllReadyH.nil))
        · go_simp
          refine (HT2.out _ _ _ st1).mono ?_
          rintro e vx2 ⟨rfl, st2, kz⟩
          have kq2 := kq1.trans kz
          refine hK.out _ _ ?_ (fun hHeld => ?_)
          · exact HK.out _ kq2
          clear hK K kz
          try simp only [Act.put, List.setIfInBounds_toArray, List.set_cons_zero, List.set_cons_succ]
          refine wpAnyH_ready (rs := [16, 17]) (by kernel_rfl) (by simp) ?_
          refine AllReadyH.cons rfl (fun K hK => ?_) (AllReadyH.cons rfl (fun K hK => ?_) AllReadyH.nil)
          · go_simp
            refine hK.out _ _ ?_ (fun hHeld => ?_)
            · exact HK.out _ (kq2.alloc _)
            clear hK K
            try simp only [Act.put, List.setIfInBounds_toArray, List.set_cons_zero, List.set_cons_succ]
            have kq3_ := kq2.alloc (.cells #[.int .i64 0, .int .i64 0, .int .i64 0, .int .i64 0, .slice none 0 0] 82)
            have st3_ := st2.alloc (.cells #[.int .i64 0, .int .i64 0, .int .i64 0, .int .i64 0, .slice none 0 0] 82)
            obtain ⟨jj, F3⟩ := mbox vx2 #[.int .i64 0, .int .i64 0, .int .i64 0, .int .i64 0, .slice none 0 0] 82 _ rfl
            obtain ⟨vx3, hv⟩ : ∃ v, v = (vx2.alloc (.cells #[.int .i64 0, .int .i64 0, .int .i64 0, .int .i64 0, .slice none 0 0] 82)) := ⟨_, rfl⟩
            obtain ⟨ga3, hga⟩ : ∃ v, v = vx2.heap.size := ⟨_, rfl⟩
            have hg3 : V3.heap.size ≤ ga3 := by rw [hga]; exact kq2.size
            simp only [← hv, ← hga] at kq3_ st3_ F3 ⊢
            have kq3 := kq3_
            have st3 := st3_
            clear kq3_ st3_ jj hv hga hHeld
            have hHeld := HK.out _ kq3
            refine wpAnyH_ready (rs := [17]) (by kernel_rfl) (by simp) ?_
            refine AllReadyH.cons rfl (fun K hK => ?_) AllReadyH.nil
            go_simp
            refine hK.out _ _ ?_ (fun hHeld => ?_)
            · exact HK.out _ (kq3.alloc _)
            clear hK K
            try simp only [Act.put, List.setIfInBounds_toArray, List.set_cons_zero, List.set_cons_succ]
            have kq4_ := kq3.alloc (.cells #[.int .i64 0, .int .i64 0, .int .i64 0, .int .i64 0, .slice none 0 0] 82)
            have st4_ := st3.alloc (.cells #[.int .i64 0, .int .i64 0, .int .i64 0, .int .i64 0, .slice none 0 0] 82)
            obtain ⟨jj, F4⟩ := mbox vx3 #[.int .i64 0, .int .i64 0, .int .i64 0, .int .i64 0, .slice none 0 0] 82 _ rfl
            have F3_4 := F3.behind jj
            have ne4 : ga3 ≠ vx3.heap.size := by have := F3.lt; omega
            obtain ⟨vx4, hv⟩ : ∃ v, v = (vx3.alloc (.cells #[.int .i64 0, .int .i64 0, .int .i64 0, .int .i64 0, .slice none 0 0] 82)) := ⟨_, rfl⟩
            obtain ⟨ga4, hga⟩ : ∃ v, v = vx3.heap.size := ⟨_, rfl⟩
            have hg4 : V3.heap.size ≤ ga4 := by rw [hga]; exact kq3.size
            simp only [← hv, ← hga] at kq4_ st4_ F4 F3_4 ne4 ⊢
            have kq4 := kq4_
            have st4 := st4_
            clear kq4_ st4_ jj hv hga hHeld
            have hHeld := HK.out _ kq4
            exact LEAF ga3 ga4 vx4 _ ⟨by assumption, by assumption, by first | assumption | exact Ne.symm (by assumption), F3_4, F4, st4, kq4⟩ (by kernel_rfl)
          · go_simp
            refine hK.out _ _ ?_ (fun hHeld => ?_)
            · exact HK.out _ (kq2.alloc _)
            clear hK K
            try simp only [Act.put, List.setIfInBounds_toArray, List.set_cons_zero, List.set_cons_succ]
            have kq5_ := kq2.alloc (.cells #[.int .i64 0, .int .i64 0, .int .i64 0, .int .i64 0, .slice none 0 0] 82)
            have st5_ := st2.alloc (.cells #[.int .i64 0, .int .i64 0, .int .i64 0, .int .i64 0, .slice none 0 0] 82)
            obtain ⟨jj, F5⟩ := mbox vx2 #[.int .i64 0, .int .i64 0, .int .i64 0, .int .i64 0, .slice none 0 0] 82 _ rfl
            obtain ⟨vx5, hv⟩ : ∃ v, v = (vx2.alloc (.cells #[.int .i64 0, .int .i64 0, .int .i64 0, .int .i64 0, .slice none 0 0] 82)) := ⟨_, rfl⟩
            obtain ⟨ga5, hga⟩ : ∃ v, v = vx2.heap.size := ⟨_, rfl⟩
            have hg5 : V3.heap.size ≤ ga5 := by rw [hga]; exact kq2.size
            simp only [← hv, ← hga] at kq5_ st5_ F5 ⊢
            have kq5 := kq5_
            have st5 := st5_
            clear kq5_ st5_ jj hv hga hHeld
            have hHeld := HK.out _ kq5
            refine wpAnyH_ready (rs := [16]) (by kernel_rfl) (by simp) ?_
            refine AllReadyH.cons rfl (fun K hK => ?_) AllReadyH.nil
            go_simp
            refine hK.out _ _ ?_ (fun hHeld => ?_)
            · exact HK.out _ (kq5.alloc _)
            clear hK K
            try simp only [Act.put, List.setIfInBounds_toArray, List.set_cons_zero, List.set_cons_succ]
            have kq6_ := kq5.alloc (.cells #[.int .i64 0, .int .i64 0, .int .i64 0, .int .i64 0, .slice none 0 0] 82)
            have st6_ := st5.alloc (.cells #[.int .i64 0, .int .i64 0, .int .i64 0, .int .i64 0, .slice none 0 0] 82)
            obtain ⟨jj, F6⟩ := mbox vx5 #[.int .i64 0, .int .i64 0, .int .i64 0, .int .i64 0, .slice none 0 0] 82 _ rfl
            have F5_6 := F5.behind jj
            have ne6 : ga5 ≠ vx5.heap.size := by have := F5.lt; omega
            obtain ⟨vx6, hv⟩ : ∃ v, v = (vx5.alloc (.cells #[.int .i64 0, .int .i64 0, .int .i64 0, .int .i64 0, .slice none 0 0] 82)) := ⟨_, rfl⟩
            obtain ⟨ga6, hga⟩ : ∃ v, v = vx5.heap.size := ⟨_, rfl⟩
            have hg6 : V3.heap.size ≤ ga6 := by rw [hga]; exact kq5.size
            simp only [← hv, ← hga] at kq6_ st6_ F6 F5_6 ne6 ⊢
            have kq6 := kq6_
            have st6 := st6_
            clear kq6_ st6_ jj hv hga hHeld
            have hHeld := HK.out _ kq6
            exact LEAF ga6 ga5 vx6 _ ⟨by assumption, by assumption, by first | assumption | exact Ne.symm (by assumption), F6, F5_6, st6, kq6⟩ (by kernel_rfl)
        · go_simp
          refine hK.out _ _ ?_ (fun hHeld => ?_)
          · exact HK.out _ (kq1.alloc _)
          clear hK K
          try simp only [Act.put, List.setIfInBounds_toArray, List.set_cons_zero, List.set_cons_succ]
          have kq7_ := kq1.alloc (.cells #[.int .i64 0, .int .i64 0, .int .i64 0, .int .i64 0, .slice none 0 0] 82)
          have st7_ := st1.alloc (.cells #[.int .i64 0, .int .i64 0, .int .i64 0, .int .i64 0, .slice none 0 0] 82)
          obtain ⟨jj, F7⟩ := mbox vx1 #[.int .i64 0, .int .i64 0, .int .i64 0, .int .i64 0, .slice none 0 0] 82 _ rfl
          obtain ⟨vx7, hv⟩ : ∃ v, v = (vx1.alloc (.cells #[.int .i64 0, .int .i64 0, .int .i64 0, .int .i64 0, .slice none 0 0] 82)) := ⟨_, rfl⟩
          obtain ⟨ga7, hga⟩ : ∃ v, v = vx1.heap.size := ⟨_, rfl⟩
          have hg7 : V3.heap.size ≤ ga7 := by rw [hga]; exact kq1.size
          simp only [← hv, ← hga] at kq7_ st7_ F7 ⊢
          have kq7 := kq7_
          have st7 := st7_
          clear kq7_ st7_ jj hv hga hHeld
          have hHeld := HK.out _ kq7
          refine wpAnyH_ready (rs := [15, 17]) (by kernel_rfl) (by simp) ?_
          refine AllReadyH.cons rfl (fun K hK => ?_) (AllReadyH.cons rfl (fun K hK => ?_) AllReadyH.nil)
          · go_simp
            refine (HT2.out _ _ _ st7).mono ?_
            rintro e vx8 ⟨rfl, st8, kz⟩
            have kq8 := kq7.trans kz
            have F7_8 := kz.ms F7 (fun hh => by have := HFR.out.1 _ hh; omega) (by have := HFR.out; omega)
            refine hK.out _ _ ?_ (fun hHeld => ?_)
            · exact HK.out _ kq8
            clear hK K kz
            try simp only [Act.put, List.setIfInBounds_toArray, List.set_cons_zero, List.set_cons_succ]
            refine wpAnyH_ready (rs := [17]) (by kernel_rfl) (by simp) ?_
            refine AllReadyH.cons rfl (fun K hK => ?_) AllReadyH.nil
            go_simp
            refine hK.out _ _ ?_ (fun hHeld => ?_)
            · exact HK.out _ (kq8.alloc _)
            clear hK K
            try simp only [Act.put, List.setIfInBounds_toArray, List.set_cons_zero, List.set_cons_succ]
            have kq9_ := kq8.alloc (.cells #[.int .i64 0, .int .i64 0, .int .i64 0, .int .i64 0, .slice none 0 0] 82)
            have st9_ := st8.alloc (.cells #[.int .i64 0, .int .i64 0, .int .i64 0, .int .i64 0, .slice none 0 0] 82)
            obtain ⟨jj, F9⟩ := mbox vx8 #[.int .i64 0, .int .i64 0, .int .i64 0, .int .i64 0, .slice none 0 0] 82 _ rfl
            have F7_8_9 := F7_8.behind jj
            have ne9 : ga7 ≠ vx8.heap.size := by have := F7_8.lt; omega
            obtain ⟨vx9, hv⟩ : ∃ v, v = (vx8.alloc (.cells #[.int .i64 0, .int .i64 0, .int .i64 0, .int .i64 0, .slice none 0 0] 82)) := ⟨_, rfl⟩
            obtain ⟨ga9, hga⟩ : ∃ v, v = vx8.heap.size := ⟨_, rfl⟩
            have hg9 : V3.heap.size ≤ ga9 := by rw [hga]; exact kq8.size
            simp only [← hv, ← hga] at kq9_ st9_ F9 F7_8_9 ne9 ⊢
            have kq9 := kq9_
            have st9 := st9_
            clear kq9_ st9_ jj hv hga hHeld
            have hHeld := HK.out _ kq9
            exact LEAF ga7 ga9 vx9 _ ⟨by assumption, by assumption, by first | assumption | exact Ne.symm (by assumption), F7_8_9, F9, st9, kq9⟩ (by kernel_rfl)
          · go_simp
            refine hK.out _ _ ?_ (fun hHeld => ?_)
            · exact HK.out _ (kq7.alloc _)
            clear hK K
            try simp only [Act.put, List.setIfInBounds_toArray, List.set_cons_zero, List.set_cons_succ]
            have kq10_ := kq7.alloc (.cells #[.int .i64 0, .int .i64 0, .int .i64 0, .int .i64 0, .slice none 0 0] 82)
            have st10_ := st7.alloc (.cells #[.int .i64 0, .int .i64 0, .int .i64 0, .int .i64 0, .slice none 0 0] 82)
            obtain ⟨jj, F10⟩ := mbox vx7 #[.int .i64 0, .int .i64 0, .int .i64 0, .int .i64 0, .slice none 0 0] 82 _ rfl
            have F7_10 := F7.behind jj
            have ne10 : ga7 ≠ vx7.heap.size := by have := F7.lt; omega
            obtain ⟨vx10, hv⟩ : ∃ v, v = (vx7.alloc (.cells #[.int .i64 0, .int .i64 0, .int .i64 0, .int .i64 0, .slice none 0 0] 82)) := ⟨_, rfl⟩
            obtain ⟨ga10, hga⟩ : ∃ v, v = vx7.heap.size := ⟨_, rfl⟩
            have hg10 : V3.heap.size ≤ ga10 := by rw [hga]; exact kq7.size
            simp only [← hv, ← hga] at kq10_ st10_ F10 F7_10 ne10 ⊢
            have kq10 := kq10_
            have st10 := st10_
            clear kq10_ st10_ jj hv hga hHeld
            have hHeld := HK.out _ kq10
            refine wpAnyH_ready (rs := [15]) (by kernel_rfl) (by simp) ?_
            refine AllReadyH.cons rfl (fun K hK => ?_) AllReadyH.nil
            go_simp
            refine (HT2.out _ _ _ st10).mono ?_
            rintro e vx11 ⟨rfl, st11, kz⟩
            have kq11 := kq10.trans kz
            have F7_10_11 := kz.ms F7_10 (fun hh => by have := HFR.out.1 _ hh; omega) (by have := HFR.out; omega)
            have F10_11 := kz.ms F10 (fun hh => by have := HFR.out.1 _ hh; omega) (by have := HFR.out; omega)
            refine hK.out _ _ ?_ (fun hHeld => ?_)
            · exact HK.out _ kq11
            clear hK K kz
            try simp only [Act.put, List.setIfInBounds_toArray, List.set_cons_zero, List.set_cons_succ]
            exact LEAF ga7 ga10 vx11 _ ⟨by assumption, by assumption, by first | assumption | exact Ne.symm (by assumption), F7_10_11, F10_11, st11, kq11⟩ (by kernel_rfl)
        · go_simp
          refine hK.out _ _ ?_ (fun hHeld => ?_)
          · exact HK.out _ (kq1.alloc _)
          clear hK K
          try simp only [Act.put, List.setIfInBounds_toArray, List.set_cons_zero, List.set_cons_succ]
          have kq12_ := kq1.alloc (.cells #[.int .i64 0, .int .i64 0, .int .i64 0, .int .i64 0, .slice none 0 0] 82)
          have st12_ := st1.alloc (.cells #[.int .i64 0, .int .i64 0, .int .i64 0, .int .i64 0, .slice none 0 0] 82)
          obtain ⟨jj, F12⟩ := mbox vx1 #[.int .i64 0, .int .i64 0, .int .i64 0, .int .i64 0, .slice none 0 0] 82 _ rfl
          obtain ⟨vx12, hv⟩ : ∃ v, v = (vx1.alloc (.cells #[.int .i64 0, .int .i64 0, .int .i64 0, .int .i64 0, .slice none 0 0] 82)) := ⟨_, rfl⟩
          obtain ⟨ga12, hga⟩ : ∃ v, v = vx1.heap.size := ⟨_, rfl⟩
          have hg12 : V3.heap.size ≤ ga12 := by rw [hga]; exact kq1.size
          simp only [← hv, ← hga] at kq12_ st12_ F12 ⊢
          have kq12 := kq12_
          have st12 := st12_
          clear kq12_ st12_ jj hv hga hHeld
          have hHeld := HK.out _ kq12
          refine wpAnyH_ready (rs := [15, 16]) (by kernel_rfl) (by simp) ?_
          refine AllReadyH.cons rfl (fun K hK => ?_) (AllReadyH.cons rfl (fun K hK => ?_) AllReadyH.nil)
          · go_simp
            refine (HT2.out _ _ _ st12).mono ?_
            rintro e vx13 ⟨rfl, st13, kz⟩
            have kq13 := kq12.trans kz
            have F12_13 := kz.ms F12 (fun hh => by have := HFR.out.1 _ hh; omega) (by have := HFR.out; omega)
            refine hK.out _ _ ?_ (fun hHeld => ?_)
            · exact HK.out _ kq13
            clear hK K kz
            try simp only [Act.put, List.setIfInBounds_toArray, List.set_cons_zero, List.set_cons_succ]
            refine wpAnyH_ready (rs := [16]) (by kernel_rfl) (by simp) ?_
            refine AllReadyH.cons rfl (fun K hK => ?_) AllReadyH.nil
            go_simp
            refine hK.out _ _ ?_ (fun hHeld => ?_)
            · exact HK.out _ (kq13.alloc _)
            clear hK K
            try simp only [Act.put, List.setIfInBounds_toArray, List.set_cons_zero, List.set_cons_succ]
            have kq14_ := kq13.alloc (.cells #[.int .i64 0, .int .i64 0, .int .i64 0, .int .i64 0, .slice none 0 0] 82)
            have st14_ := st13.alloc (.cells #[.int .i64 0, .int .i64 0, .int .i64 0, .int .i64 0, .slice none 0 0] 82)
            obtain ⟨jj, F14⟩ := mbox vx13 #[.int .i64 0, .int .i64 0, .int .i64 0, .int .i64 0, .slice none 0 0] 82 _ rfl
            have F12_13_14 := F12_13.behind jj
            have ne14 : ga12 ≠ vx13.heap.size := by have := F12_13.lt; omega
            obtain ⟨vx14, hv⟩ : ∃ v, v = (vx13.alloc (.cells #[.int .i64 0, .int .i64 0, .int .i64 0, .int .i64 0, .slice none 0 0] 82)) := ⟨_, rfl⟩
            obtain ⟨ga14, hga⟩ : ∃ v, v = vx13.heap.size := ⟨_, rfl⟩
            have hg14 : V3.heap.size ≤ ga14 := by rw [hga]; exact kq13.size
            simp only [← hv, ← hga] at kq14_ st14_ F14 F12_13_14 ne14 ⊢
            have kq14 := kq14_
            have st14 := st14_
            clear kq14_ st14_ jj hv hga hHeld
            have hHeld := HK.out _ kq14
            exact LEAF ga14 ga12 vx14 _ ⟨by assumption, by assumption, by first | assumption | exact Ne.symm (by assumption), F14, F12_13_14, st14, kq14⟩ (by kernel_rfl)
          · go_simp
            refine hK.out _ _ ?_ (fun hHeld => ?_)
            · exact HK.out _ (kq12.alloc _)
            clear hK K
            try simp only [Act.put, List.setIfInBounds_toArray, List.set_cons_zero, List.set_cons_succ]
            have kq15_ := kq12.alloc (.cells #[.int .i64 0, .int .i64 0, .int .i64 0, .int .i64 0, .slice none 0 0] 82)
            have st15_ := st12.alloc (.cells #[.int .i64 0, .int .i64 0, .int .i64 0, .int .i64 0, .slice none 0 0] 82)
            obtain ⟨jj, F15⟩ := mbox vx12 #[.int .i64 0, .int .i64 0, .int .i64 0, .int .i64 0, .slice none 0 0] 82 _ rfl
            have F12_15 := F12.behind jj
            have ne15 : ga12 ≠ vx12.heap.size := by have := F12.lt; omega
            obtain ⟨vx15, hv⟩ : ∃ v, v = (vx12.alloc (.cells #[.int .i64 0, .int .i64 0, .int .i64 0, .int .i64 0, .slice none 0 0] 82)) := ⟨_, rfl⟩
            obtain ⟨ga15, hga⟩ : ∃ v, v = vx12.heap.size := ⟨_, rfl⟩
            have hg15 : V3.heap.size ≤ ga15 := by rw [hga]; exact kq12.size
            simp only [← hv, ← hga] at kq15_ st15_ F15 F12_15 ne15 ⊢
            have kq15 := kq15_
            have st15 := st15_
            clear kq15_ st15_ jj hv hga hHeld
            have hHeld := HK.out _ kq15
            refine wpAnyH_ready (rs := [15]) (by kernel_rfl) (by simp) ?_
            refine AllReadyH.cons rfl (fun K hK => ?_) AllReadyH.nil
            go_simp
            refine (HT2.out _ _ _ st15).mono ?_
            rintro e vx16 ⟨rfl, st16, kz⟩
            have kq16 := kq15.trans kz
            have F12_15_16 := kz.ms F12_15 (fun hh => by have := HFR.out.1 _ hh; omega) (by have := HFR.out; omega)
            have F15_16 := kz.ms F15 (fun hh => by have := HFR.out.1 _ hh; omega) (by have := HFR.out; omega)
            refine hK.out _ _ ?_ (fun hHeld => ?_)
            · exact HK.out _ kq16
            clear hK K kz
            try simp only [Act.put, List.setIfInBounds_toArray, List.set_cons_zero, List.set_cons_succ]
            exact LEAF ga15 ga12 vx16 _ ⟨by assumption, by assumption, by first | assumption | exact Ne.symm (by assumption), F15_16, F12_15_16, st16, kq16⟩ (by kernel_rfl)
      · go_simp
        refine hK.out _ _ ?_ (fun hHeld => ?_)
        · exact HK.out _ (kq0.alloc _)
        clear hK K
        try simp only [Act.put, List.setIfInBounds_toArray, List.set_cons_zero, List.set_cons_succ]
        have kq17_ : Kq X g V3 (V3.alloc (.cells #[.int .i64 0, .int .i64 0, .int .i64 0, .int .i64 0, .slice none 0 0] 82)).drew := ((Kq.refl X g V3).alloc (.cells #[.int .i64 0, .int .i64 0, .int .i64 0, .int .i64 0, .slice none 0 0] 82)).drew
        have st17_ := St.drew (hst.alloc (.cells #[.int .i64 0, .int .i64 0, .int .i64 0, .int .i64 0, .slice none 0 0] 82))
        obtain ⟨jj, F17⟩ := mbox V3 #[.int .i64 0, .int .i64 0, .int .i64 0, .int .i64 0, .slice none 0 0] 82 _ rfl
        replace F17 := F17.drew
        obtain ⟨vx17, hv⟩ : ∃ v, v = (V3.alloc (.cells #[.int .i64 0, .int .i64 0, .int .i64 0, .int .i64 0, .slice none 0 0] 82)).drew := ⟨_, rfl⟩
        obtain ⟨ga17, hga⟩ : ∃ v, v = V3.heap.size := ⟨_, rfl⟩
        have hg17 : V3.heap.size ≤ ga17 := by rw [hga]; exact Nat.le_refl _
        simp only [← hv, ← hga] at kq17_ st17_ F17 ⊢
        have kq17 := kq17_
        have st17 := st17_
        clear kq17_ st17_ jj hv hga hHeld
        have hHeld := HK.out _ kq17
        refine wpAnyH_ready (rs := [7, 17]) (by kernel_rfl) (by simp) ?_
        refine AllReadyH.cons rfl (fun K hK => ?_) (AllReadyH.cons rfl (fun K hK => ?_) AllReadyH.nil)
        · go_simp
          refine (HT1.out _ st17).mono ?_
          rintro e vx18 ⟨rfl, st18, kz⟩
          have kq18 := kq17.trans kz
          have F17_18 := kz.ms F17 (fun hh => by have := HFR.out.1 _ hh; omega) (by have := HFR.out; omega)
          refine hK.out _ _ ?_ (fun hHeld => ?_)
          · exact HK.out _ kq18
          clear hK K kz
          try simp only [Act.put, List.setIfInBounds_toArray, List.set_cons_zero, List.set_cons_succ]
          refine wpAnyH_ready (rs := [15, 17]) (by kernel_rfl) (by simp) ?_
          refine AllReadyH.cons rfl (fun K hK => ?_) (AllReadyH.cons rfl (fun K hK => ?_) AllReadyH.nil)
          · go_simp
            refine (HT2.out _ _ _ st18).mono ?_
            rintro e vx19 ⟨rfl, st19, kz⟩
            have kq19 := kq18.trans kz
            have F17_18_19 := kz.ms F17_18 (fun hh => by have := HFR.out.1 _ hh; omega) (by have := HFR.out; omega)
            refine hK.out _ _ ?_ (fun hHeld => ?_)
            · exact HK.out _ kq19
            clear hK K kz
            try simp only [Act.put, List.setIfInBounds_toArray, List.set_cons_zero, List.set_cons_succ]
            refine wpAnyH_ready (rs := [17]) (by kernel_rfl) (by simp) ?_
            refine AllReadyH.cons rfl (fun K hK => ?_) AllReadyH.nil
            go_simp
            refine hK.out _ _ ?_ (fun hHeld => ?_)
            · exact HK.out _ (kq19.alloc _)
            clear hK K
            try simp only [Act.put, List.setIfInBounds_toArray, List.set_cons_zero, List.set_cons_succ]
            have kq20_ := kq19.alloc (.cells #[.int .i64 0, .int .i64 0, .int .i64 0, .int .i64 0, .slice none 0 0] 82)
            have st20_ := st19.alloc (.cells #[.int .i64 0, .int .i64 0, .int .i64 0, .int .i64 0, .slice none 0 0] 82)
            obtain ⟨jj, F20⟩ := mbox vx19 #[.int .i64 0, .int .i64 0, .int .i64 0, .int .i64 0, .slice none 0 0] 82 _ rfl
            have F17_18_19_20 := F17_18_19.behind jj
            have ne20 : ga17 ≠ vx19.heap.size := by have := F17_18_19.lt; omega
            obtain ⟨vx20, hv⟩ : ∃ v, v = (vx19.alloc (.cells #[.int .i64 0, .int .i64 0, .int .i64 0, .int .i64 0, .slice none 0 0] 82)) := ⟨_, rfl⟩
            obtain ⟨ga20, hga⟩ : ∃ v, v = vx19.heap.size := ⟨_, rfl⟩
            have hg20 : V3.heap.size ≤ ga20 := by rw [hga]; exact kq19.size
            simp only [← hv, ← hga] at kq20_ st20_ F20 F17_18_19_20 ne20 ⊢
            have kq20 := kq20_
            have st20 := st20_
            clear kq20_ st20_ jj hv hga hHeld
            have hHeld := HK.out _ kq20
            exact LEAF ga17 ga20 vx20 _ ⟨by assumption, by assumption, by first | assumption | exact Ne.symm (by assumption), F17_18_19_20, F20, st20, kq20⟩ (by kernel_rfl)
          · go_simp
            refine hK.out _ _ ?_ (fun hHeld => ?_)
            · exact HK.out _ (kq18.alloc _)
            clear hK K
            try simp only [Act.put, List.setIfInBounds_toArray, List.set_cons_zero, List.set_cons_succ]
            have kq21_ := kq18.alloc (.cells #[.int .i64 0, .int .i64 0, .int .i64 0, .int .i64 0, .slice none 0 0] 82)
            have st21_ := st18.alloc (.cells #[.int .i64 0, .int .i64 0, .int .i64 0, .int .i64 0, .slice none 0 0] 82)
            obtain ⟨jj, F21⟩ := mbox vx18 #[.int .i64 0, .int .i64 0, .int .i64 0, .int .i64 0, .slice none 0 0] 82 _ rfl
            have F17_18_21 := F17_18.behind jj
            have ne21 : ga17 ≠ vx18.heap.size := by have := F17_18.lt; omega
            obtain ⟨vx21, hv⟩ : ∃ v, v = (vx18.alloc (.cells #[.int .i64 0, .int .i64 0, .int .i64 0, .int .i64 0, .slice none 0 0] 82)) := ⟨_, rfl⟩
            obtain ⟨ga21, hga⟩ : ∃ v, v = vx18.heap.size := ⟨_, rfl⟩
            have hg21 : V3.heap.size ≤ ga21 := by rw [hga]; exact kq18.size
            simp only [← hv, ← hga] at kq21_ st21_ F21 F17_18_21 ne21 ⊢
            have kq21 := kq21_
            have st21 := st21_
            clear kq21_ st21_ jj hv hga hHeld
            have hHeld := HK.out _ kq21
            refine wpAnyH_ready (rs := [15]) (by kernel_rfl) (by simp) ?_
            refine AllReadyH.cons rfl (fun K hK => ?_) AllReadyH.nil
            go_simp
            refine (HT2.out _ _ _ st21).mono ?_
            rintro e vx22 ⟨rfl, st22, kz⟩
            have kq22 := kq21.trans kz
            have F17_18_21_22 := kz.ms F17_18_21 (fun hh => by have := HFR.out.1 _ hh; omega) (by have := HFR.out; omega)
            have F21_22 := kz.ms F21 (fun hh => by have := HFR.out.1 _ hh; omega) (by have := HFR.out; omega)
            refine hK.out _ _ ?_ (fun hHeld => ?_)
            · exact HK.out _ kq22
            clear hK K kz
            try simp only [Act.put, List.setIfInBounds_toArray, List.set_cons_zero, List.set_cons_succ]
            exact LEAF ga17 ga21 vx22 _ ⟨by assumption, by assumption, by first | assumption | exact Ne.symm (by assumption), F17_18_21_22, F21_22, st22, kq22⟩ (by kernel_rfl)
        · go_simp
          refine hK.out _ _ ?_ (fun hHeld => ?_)
          · exact HK.out _ (kq17.alloc _)
          clear hK K
          try simp only [Act.put, List.setIfInBounds_toArray, List.set_cons_zero, List.set_cons_succ]
          have kq23_ := kq17.alloc (.cells #[.int .i64 0, .int .i64 0, .int .i64 0, .int .i64 0, .slice none 0 0] 82)
          have st23_ := st17.alloc (.cells #[.int .i64 0, .int .i64 0, .int .i64 0, .int .i64 0, .slice none 0 0] 82)
          obtain ⟨jj, F23⟩ := mbox vx17 #[.int .i64 0, .int .i64 0, .int .i64 0, .int .i64 0, .slice none 0 0] 82 _ rfl
          have F17_23 := F17.behind jj
          have ne23 : ga17 ≠ vx17.heap.size := by have := F17.lt; omega
          obtain ⟨vx23, hv⟩ : ∃ v, v = (vx17.alloc (.cells #[.int .i64 0, .int .i64 0, .int .i64 0, .int .i64 0, .slice none 0 0] 82)) := ⟨_, rfl⟩
          obtain ⟨ga23, hga⟩ : ∃ v, v = vx17.heap.size := ⟨_, rfl⟩
          have hg23 : V3.heap.size ≤ ga23 := by rw [hga]; exact kq17.size
          simp only [← hv, ← hga] at kq23_ st23_ F23 F17_23 ne23 ⊢
          have kq23 := kq23_
          have st23 := st23_
          clear kq23_ st23_ jj hv hga hHeld
          have hHeld := HK.out _ kq23
          refine wpAnyH_ready (rs := [7]) (by kernel_rfl) (by simp) ?_
          refine AllReadyH.cons rfl (fun K hK => ?_) AllReadyH.nil
          go_simp
          refine (HT1.out _ st23).mono ?_
          rintro e vx24 ⟨rfl, st24, kz⟩
          have kq24 := kq23.trans kz
          have F17_23_24 := kz.ms F17_23 (fun hh => by have := HFR.out.1 _ hh; omega) (by have := HFR.out; omega)
          have F23_24 := kz.ms F23 (fun hh => by have := HFR.out.1 _ hh; omega) (by have := HFR.out; omega)
          refine hK.out _ _ ?_ (fun hHeld => ?_)
          · exact HK.out _ kq24
          clear hK K kz
          try simp only [Act.put, List.setIfInBounds_toArray, List.set_cons_zero, List.set_cons_succ]
          refine wpAnyH_ready (rs := [15]) (by kernel_rfl) (by simp) ?_
          refine AllReadyH.cons rfl (fun K hK => ?_) AllReadyH.nil
          go_simp
          refine (HT2.out _ _ _ st24).mono ?_
          rintro e vx25 ⟨rfl, st25, kz⟩
          have kq25 := kq24.trans kz
          have F17_23_24_25 := kz.ms F17_23_24 (fun hh => by have := HFR.out.1 _ hh; omega) (by have := HFR.out; omega)
          have F23_24_25 := kz.ms F23_24 (fun hh => by have := HFR.out.1 _ hh; omega) (by have := HFR.out; omega)
          refine hK.out _ _ ?_ (fun hHeld => ?_)
          · exact HK.out _ kq25
          clear hK K kz
          try simp only [Act.put, List.setIfInBounds_toArray, List.set_cons_zero, List.set_cons_succ]
          exact LEAF ga17 ga23 vx25 _ ⟨by assumption, by assumption, by first | assumption | exact Ne.symm (by assumption), F17_23_24_25, F23_24_25, st25, kq25⟩ (by kernel_rfl)
      · go_simp
        refine hK.out _ _ ?_ (fun hHeld => ?_)
        · exact HK.out _ (kq0.alloc _)
        clear hK K
        try simp only [Act.put, List.setIfInBounds_toArray, List.set_cons_zero, List.set_cons_succ]
        have kq26_ : Kq X g V3 (V3.alloc (.cells #[.int .i64 0, .int .i64 0, .int .i64 0, .int .i64 0, .slice none 0 0] 82)).drew := ((Kq.refl X g V3).alloc (.cells #[.int .i64 0, .int .i64 0, .int .i64 0, .int .i64 0, .slice none 0 0] 82)).drew
        have st26_ := St.drew (hst.alloc (.cells #[.int .i64 0, .int .i64 0, .int .i64 0, .int .i64 0, .slice none 0 0] 82))
        obtain ⟨jj, F26⟩ := mbox V3 #[.int .i64 0, .int .i64 0, .int .i64 0, .int .i64 0, .slice none 0 0] 82 _ rfl
        replace F26 := F26.drew
        obtain ⟨vx26, hv⟩ : ∃ v, v = (V3.alloc (.cells #[.int .i64 0, .int .i64 0, .int .i64 0, .int .i64 0, .slice none 0 0] 82)).drew := ⟨_, rfl⟩
        obtain ⟨ga26, hga⟩ : ∃ v, v = V3.heap.size := ⟨_, rfl⟩
        have hg26 : V3.heap.size ≤ ga26 := by rw [hga]; exact Nat.le_refl _
        simp only [← hv, ← hga] at kq26_ st26_ F26 ⊢
        have kq26 := kq26_
        have st26 := st26_
        clear kq26_ st26_ jj hv hga hHeld
        have hHeld := HK.out _ kq26
        refine wpAnyH_ready (rs := [7, 16]) (by kernel_rfl) (by simp) ?_
        refine AllReadyH.cons rfl (fun K hK => ?_) (AllReadyH.cons rfl (fun K hK => ?_) AllReadyH.nil)
        · go_simp
          refine (HT1.out _ st26).mono ?_
          rintro e vx27 ⟨rfl, st27, kz⟩
          have kq27 := kq26.trans kz
          have F26_27 := kz.ms F26 (fun hh => by have := HFR.out.1 _ hh; omega) (by have := HFR.out; omega)
          refine hK.out _ _ ?_ (fun hHeld => ?_)
          · exact HK.out _ kq27
          clear hK K kz
          try simp only [Act.put, List.setIfInBounds_toArray, List.set_cons_zero, List.set_cons_succ]
          refine wpAnyH_ready (rs := [15, 16]) (by kernel_rfl) (by simp) ?_
          refine AllReadyH.cons rfl (fun K hK => ?_) (AllReadyH.cons rfl (fun K hK => ?_) AllReadyH.nil)
          · go_simp
            refine (HT2.out _ _ _ st27).mono ?_
            rintro e vx28 ⟨rfl, st28, kz⟩
            have kq28 := kq27.trans kz
            have F26_27_28 := kz.ms F26_27 (fun hh => by have := HFR.out.1 _ hh; omega) (by have := HFR.out; omega)
            refine hK.out _ _ ?_ (fun hHeld => ?_)
            · exact HK.out _ kq28
            clear hK K kz
            try simp only [Act.put, List.setIfInBounds_toArray, List.set_cons_zero, List.set_cons_succ]
            refine wpAnyH_ready (rs := [16]) (by kernel_rfl) (by simp) ?_
            refine AllReadyH.cons rfl (fun K hK => ?_) AllReadyH.nil
            go_simp
            refine hK.out _ _ ?_ (fun hHeld => ?_)
            · exact HK.out _ (kq28.alloc _)
            clear hK K
            try simp only [Act.put, List.setIfInBounds_toArray, List.set_cons_zero, List.set_cons_succ]
            have kq29_ := kq28.alloc (.cells #[.int .i64 0, .int .i64 0, .int .i64 0, .int .i64 0, .slice none 0 0] 82)
            have st29_ := st28.alloc (.cells #[.int .i64 0, .int .i64 0, .int .i64 0, .int .i64 0, .slice none 0 0] 82)
            obtain ⟨jj, F29⟩ := mbox vx28 #[.int .i64 0, .int .i64 0, .int .i64 0, .int .i64 0, .slice none 0 0] 82 _ rfl
            have F26_27_28_29 := F26_27_28.behind jj
            have ne29 : ga26 ≠ vx28.heap.size := by have := F26_27_28.lt; omega
            obtain ⟨vx29, hv⟩ : ∃ v, v = (vx28.alloc (.cells #[.int .i64 0, .int .i64 0, .int .i64 0, .int .i64 0, .slice none 0 0] 82)) := ⟨_, rfl⟩
            obtain ⟨ga29, hga⟩ : ∃ v, v = vx28.heap.size := ⟨_, rfl⟩
            have hg29 : V3.heap.size ≤ ga29 := by rw [hga]; exact kq28.size
            simp only [← hv, ← hga] at kq29_ st29_ F29 F26_27_28_29 ne29 ⊢
            have kq29 := kq29_
            have st29 := st29_
            clear kq29_ st29_ jj hv hga hHeld
            have hHeld := HK.out _ kq29
            exact LEAF ga29 ga26 vx29 _ ⟨by assumption, by assumption, by first | assumption | exact Ne.symm (by assumption), F29, F26_27_28_29, st29, kq29⟩ (by kernel_rfl)
          · go_simp
            refine hK.out _ _ ?_ (fun hHeld => ?_)
            · exact HK.out _ (kq27.alloc _)
            clear hK K
            try simp only [Act.put, List.setIfInBounds_toArray, List.set_cons_zero, List.set_cons_succ]
            have kq30_ := kq27.alloc (.cells #[.int .i64 0, .int .i64 0, .int .i64 0, .int .i64 0, .slice none 0 0] 82)
            have st30_ := st27.alloc (.cells #[.int .i64 0, .int .i64 0, .int .i64 0, .int .i64 0, .slice none 0 0] 82)
            obtain ⟨jj, F30⟩ := mbox vx27 #[.int .i64 0, .int .i64 0, .int .i64 0, .int .i64 0, .slice none 0 0] 82 _ rfl
            have F26_27_30 := F26_27.behind jj
            have ne30 : ga26 ≠ vx27.heap.size := by have := F26_27.lt; omega
            obtain ⟨vx30, hv⟩ : ∃ v, v = (vx27.alloc (.cells #[.int .i64 0, .int .i64 0, .int .i64 0, .int .i64 0, .slice none 0 0] 82)) := ⟨_, rfl⟩
            obtain ⟨ga30, hga⟩ : ∃ v, v = vx27.heap.size := ⟨_, rfl⟩
            have hg30 : V3.heap.size ≤ ga30 := by rw [hga]; exact kq27.size
            simp only [← hv, ← hga] at kq30_ st30_ F30 F26_27_30 ne30 ⊢
            have kq30 := kq30_
            have st30 := st30_
            clear kq30_ st30_ jj hv hga hHeld
            have hHeld := HK.out _ kq30
            refine wpAnyH_ready (rs := [15]) (by kernel_rfl) (by simp) ?_
            refine AllReadyH.cons rfl (fun K hK => ?_) AllReadyH.nil
            go_simp
            refine (HT2.out _ _ _ st30).mono ?_
            rintro e vx31 ⟨rfl, st31, kz⟩
            have kq31 := kq30.trans kz
            have F26_27_30_31 := kz.ms F26_27_30 (fun hh => by have := HFR.out.1 _ hh; omega) (by have := HFR.out; omega)
            have F30_31 := kz.ms F30 (fun hh => by have := HFR.out.1 _ hh; omega) (by have := HFR.out; omega)
            refine hK.out _ _ ?_ (fun hHeld => ?_)
            · exact HK.out _ kq31
            clear hK K kz
            try simp only [Act.put, List.setIfInBounds_toArray, List.set_cons_zero, List.set_cons_succ]
            exact LEAF ga30 ga26 vx31 _ ⟨by assumption, by assumption, by first | assumption | exact Ne.symm (by assumption), F30_31, F26_27_30_31, st31, kq31⟩ (by kernel_rfl)
        · go_simp
          refine hK.out _ _ ?_ (fun hHeld => ?_)
          · exact HK.out _ (kq26.alloc _)
          clear hK K
          try simp only [Act.put, List.setIfInBounds_toArray, List.set_cons_zero, List.set_cons_succ]
          have kq32_ := kq26.alloc (.cells #[.int .i64 0, .int .i64 0, .int .i64 0, .int .i64 0, .slice none 0 0] 82)
          have st32_ := st26.alloc (.cells #[.int .i64 0, .int .i64 0, .int .i64 0, .int .i64 0, .slice none 0 0] 82)
          obtain ⟨jj, F32⟩ := mbox vx26 #[.int .i64 0, .int .i64 0, .int .i64 0, .int .i64 0, .slice none 0 0] 82 _ rfl
          have F26_32 := F26.behind jj
          have ne32 : ga26 ≠ vx26.heap.size := by have := F26.lt; omega
          obtain ⟨vx32, hv⟩ : ∃ v, v = (vx26.alloc (.cells #[.int .i64 0, .int .i64 0, .int .i64 0, .int .i64 0, .slice none 0 0] 82)) := ⟨_, rfl⟩
          obtain ⟨ga32, hga⟩ : ∃ v, v = vx26.heap.size := ⟨_, rfl⟩
          have hg32 : V3.heap.size ≤ ga32 := by rw [hga]; exact kq26.size
          simp only [← hv, ← hga] at kq32_ st32_ F32 F26_32 ne32 ⊢
          have kq32 := kq32_
          have st32 := st32_
          clear kq32_ st32_ jj hv hga hHeld
          have hHeld := HK.out _ kq32
          refine wpAnyH_ready (rs := [7]) (by kernel_rfl) (by simp) ?_
          refine AllReadyH.cons rfl (fun K hK => ?_) AllReadyH.nil
          go_simp
          refine (HT1.out _ st32).mono ?_
          rintro e vx33 ⟨rfl, st33, kz⟩
          have kq33 := kq32.trans kz
          have F26_32_33 := kz.ms F26_32 (fun hh => by have := HFR.out.1 _ hh; omega) (by have := HFR.out; omega)
          have F32_33 := kz.ms F32 (fun hh => by have := HFR.out.1 _ hh; omega) (by have := HFR.out; omega)
          refine hK.out _ _ ?_ (fun hHeld => ?_)
          · exact HK.out _ kq33
          clear hK K kz
          try simp only [Act.put, List.setIfInBounds_toArray, List.set_cons_zero, List.set_cons_succ]
          refine wpAnyH_ready (rs := [15]) (by kernel_rfl) (by simp) ?_
          refine AllReadyH.cons rfl (fun K hK => ?_) AllReadyH.nil
          go_simp
          refine (HT2.out _ _ _ st33).mono ?_
          rintro e vx34 ⟨rfl, st34, kz⟩
          have kq34 := kq33.trans kz
          have F26_32_33_34 := kz.ms F26_32_33 (fun hh => by have := HFR.out.1 _ hh; omega) (by have := HFR.out; omega)
          have F32_33_34 := kz.ms F32_33 (fun hh => by have := HFR.out.1 _ hh; omega) (by have := HFR.out; omega)
          refine hK.out _ _ ?_ (fun hHeld => ?_)
          · exact HK.out _ kq34
          clear hK K kz
          try simp only [Act.put, List.setIfInBounds_toArray, List.set_cons_zero, List.set_cons_succ]
          exact LEAF ga32 ga26 vx34 _ ⟨by assumption, by assumption, by first | assumption | exact Ne.symm (by assumption), F32_33_34, F26_32_33_34, st34, kq34⟩ (by kernel_rfl)
    case leaf =>
      rintro g1 g2 v l ⟨hb1, hb2, hne, F1, F2, st0, kq0⟩ rfl
      have z0 := F1.cell (i := 0) rfl
      have y0 := F1.f 0
      have z1 := F1.cell (i := 1) rfl
      have y1 := F1.f 1
      have z2 := F1.cell (i := 2) rfl
      have y2 := F1.f 2
      have z3 := F1.cell (i := 3) rfl
      have y3 := F1.f 3
      have z4 := F1.cell (i := 4) rfl
      have y4 := F1.f 4
      refine wpAnyH_ready (rs := [18]) (by kernel_rfl) (by simp) ?_
      refine AllReadyH.cons rfl (fun K hK => ?_) AllReadyH.nil
      go_simp
      refine hK.out _ _ ?_ (fun hHeld => ?_)
      · exact HK.out _ (kq0.put5 hb1 _ _ _ _ _)
      clear hK K
      try simp only [List.setIfInBounds_toArray, List.set_cons_zero, List.set_cons_succ]
      have E1 := ms_put5 (x := (.int .i64 (p : Int))) (y := (.int .i64 (q : Int))) (z := (.int .i64 (q : Int))) (u := (.int .i64 0)) (v := (.slice (some ⟨s, u, none⟩) PS PS)) F1
      have E2 := ms_past5 (x := (.int .i64 (p : Int))) (y := (.int .i64 (q : Int))) (z := (.int .i64 (q : Int))) (u := (.int .i64 0)) (v := (.slice (some ⟨s, u, none⟩) PS PS)) F2 hne.symm
      have kq9 := kq0.put5 (q := g1) hb1 (.int .i64 (p : Int)) (.int .i64 (q : Int)) (.int .i64 (q : Int)) (.int .i64 0) (.slice (some ⟨s, u, none⟩) PS PS)
      have st9 := st0.put5 (q := g1) (by have := HFR.out; omega) (fun S hS => by have := HFR.out.1 S hS; omega) (by have := HFR.out; omega) (fun S o hl => by have := HLT.out S o hl; omega) (.int .i64 (p : Int)) (.int .i64 (q : Int)) (.int .i64 (q : Int)) (.int .i64 0) (.slice (some ⟨s, u, none⟩) PS PS)
      clear hHeld z0 y0 z1 y1 z2 y2 z3 y3 z4 y4
      refine hold_gen (φ := fun v => Ms v g1 #[.int .i64 (p : Int), .int .i64 (q : Int), .int .i64 (q : Int), .int .i64 0, .slice (some ⟨s, u, none⟩) PS PS] 82 ∧ Ms v g2 #[.int .i64 0, .int .i64 0, .int .i64 0, .int .i64 0, .slice none 0 0] 82 ∧ St L X b0 g s n (u + PS + PT) (max (max h (u + PS)) (u + PS + PT)) (clM (clM m s u PS) s (u + PS) PT) v ∧ Kq X g V3 v) ⟨E1, E2, st9, kq9⟩ ?_
      rintro vy ⟨E3, E4, st9, kq9⟩
      have z0 := E4.cell (i := 0) rfl
      have y0 := E4.f 0
      have z1 := E4.cell (i := 1) rfl
      have y1 := E4.f 1
      have z2 := E4.cell (i := 2) rfl
      have y2 := E4.f 2
      have z3 := E4.cell (i := 3) rfl
      have y3 := E4.f 3
      have z4 := E4.cell (i := 4) rfl
      have y4 := E4.f 4
      refine wpAnyH_ready (rs := [19]) (by kernel_rfl) (by simp) ?_
      refine AllReadyH.cons rfl (fun K hK => ?_) AllReadyH.nil
      go_simp
      refine hK.out _ _ ?_ (fun hHeld => ?_)
      · exact HK.out _ (kq9.put5 hb2 _ _ _ _ _)
      clear hK K
      try simp only [List.setIfInBounds_toArray, List.set_cons_zero, List.set_cons_succ]
      refine wpAnyH_done (by kernel_rfl) ?_ _
      go_wp2_with fail
      go_meet
      exact ⟨g1, g2, rfl, rfl, hb1, hb2, hne, ms_past5 (x := (.int .i64 (q : Int))) (y := (.int .i64 (r : Int))) (z := (.int .i64 (r : Int))) (u := (.int .i64 0)) (v := (.slice (some ⟨s, (u + PS), none⟩) PT PT)) E3 hne, ms_put5 (x := (.int .i64 (q : Int))) (y := (.int .i64 (r : Int))) (z := (.int .i64 (r : Int))) (u := (.int .i64 0)) (v := (.slice (some ⟨s, (u + PS), none⟩) PT PT)) E4, st9.put5 (q := g2) (by have := HFR.out; omega) (fun S hS => by have := HFR.out.1 S hS; omega) (by have := HFR.out; omega) (fun S o hl => by have := HLT.out S o hl; omega) (.int .i64 (q : Int)) (.int .i64 (r : Int)) (.int .i64 (r : Int)) (.int .i64 0) (.slice (some ⟨s, (u + PS), none⟩) PT PT), kq9.put5 (q := g2) hb2 (.int .i64 (q : Int)) (.int .i64 (r : Int)) (.int .i64 (r : Int)) (.int .i64 0) (.slice (some ⟨s, (u + PS), none⟩) PT PT)⟩
  obtain ⟨gs, gt, rfl, rfl, g51, g52, g53, MS, MT, st5, kq5⟩ := hcut
  obtain ⟨V5, rfl⟩ : ∃ wo, wo = wc := ⟨_, rfl⟩
  have HST5 := Lib.hid st5
  have HKQ5 := Lib.hid kq5
  have HM5 : Hid (∀ W, Kq X g V5 W → Ms W w.heap.size #[.pointer (some ⟨g, 0, none⟩), .int .i64 (cut : Int)] 79 ∧ Ms W k21 #[.int .i64 (p : Int), .int .i64 (q : Int), .int .i64 (T2 : Int), .int .i64 (Q21 : Int), .slice (some ⟨S2, B2, none⟩) N2 cap2] 82 ∧ Ms W k22 #[.int .i64 (p : Int), .int .i64 (q : Int), .int .i64 (T2 : Int), .int .i64 (Q22 : Int), .slice (some ⟨S2, B2, none⟩) N2 cap2] 82 ∧ Ms W k23 #[.int .i64 (p : Int), .int .i64 (q : Int), .int .i64 (T2 : Int), .int .i64 (Q23 : Int), .slice (some ⟨S2, B2, none⟩) N2 cap2] 82 ∧ Ms W k24 #[.int .i64 (p : Int), .int .i64 (q : Int), .int .i64 (T2 : Int), .int .i64 (Q24 : Int), .slice (some ⟨S2, B2, none⟩) N2 cap2] 82 ∧ Ms W k31 #[.int .i64 (q : Int), .int .i64 (r : Int), .int .i64 (T3 : Int), .int .i64 (Q31 : Int), .slice (some ⟨S3, B3, none⟩) N3 cap3] 82 ∧ Ms W k32 #[.int .i64 (q : Int), .int .i64 (r : Int), .int .i64 (T3 : Int), .int .i64 (Q32 : Int), .slice (some ⟨S3, B3, none⟩) N3 cap3] 82 ∧ Ms W k33 #[.int .i64 (q : Int), .int .i64 (r : Int), .int .i64 (T3 : Int), .int .i64 (Q33 : Int), .slice (some ⟨S3, B3, none⟩) N3 cap3] 82 ∧ Ms W k34 #[.int .i64 (q : Int), .int .i64 (r : Int), .int .i64 (T3 : Int), .int .i64 (Q34 : Int), .slice (some ⟨S3, B3, none⟩) N3 cap3] 82 ∧ Ms W k11 #[.int .i64 (p : Int), .int .i64 (r : Int), .int .i64 (T1 : Int), .int .i64 (Q11 : Int), .slice (some ⟨S1, B1, none⟩) N1 cap1] 82 ∧ Ms W k12 #[.int .i64 (p : Int), .int .i64 (r : Int), .int .i64 (T1 : Int), .int .i64 (Q12 : Int), .slice (some ⟨S1, B1, none⟩) N1 cap1] 82 ∧ Ms W k13 #[.int .i64 (p : Int), .int .i64 (r : Int), .int .i64 (T1 : Int), .int .i64 (Q13 : Int), .slice (some ⟨S1, B1, none⟩) N1 cap1] 82 ∧ Ms W k14 #[.int .i64 (p : Int), .int .i64 (r : Int), .int .i64 (T1 : Int), .int .i64 (Q14 : Int), .slice (some ⟨S1, B1, none⟩) N1 cap1] 82 ∧ Ms W gs #[.int .i64 (p : Int), .int .i64 (q : Int), .int .i64 (q : Int), .int .i64 (0 : Int), .slice (some ⟨s, u, none⟩) PS PS] 82 ∧ Ms W gt #[.int .i64 (q : Int), .int .i64 (r : Int), .int .i64 (r : Int), .int .i64 (0 : Int), .slice (some ⟨s, (u + PS), none⟩) PT PT] 82) := Lib.hid (fun W k => by
    have h0 := HM.out W (HKQ5.out.trans k)
    exact ⟨h0.1, h0.2.1, h0.2.2.1, h0.2.2.2.1, h0.2.2.2.2.1, h0.2.2.2.2.2.1, h0.2.2.2.2.2.2.1, h0.2.2.2.2.2.2.2.1, h0.2.2.2.2.2.2.2.2.1, h0.2.2.2.2.2.2.2.2.2.1, h0.2.2.2.2.2.2.2.2.2.2.1, h0.2.2.2.2.2.2.2.2.2.2.2.1, h0.2.2.2.2.2.2.2.2.2.2.2.2, k.ms MS (fun hh => by have := HFR.out.1 _ hh; have := HWV.out; omega) (by have := HFR.out; have := HWV.out; omega), k.ms MT (fun hh => by have := HFR.out.1 _ hh; have := HWV.out; omega) (by have := HFR.out; have := HWV.out; omega)⟩)
  have HG5 : Hid (V3.heap.size ≤ gs ∧ V3.heap.size ≤ gt ∧ V3.heap.size ≤ V5.heap.size) := Lib.hid ⟨g51, g52, kq5.size⟩
  have HK6 : Hid (∀ W, Kq X g V5 W → W.cell? ⟨w.heap.size, 0, none⟩ = some (.pointer (some ⟨g, 0, none⟩)) ∧ W.cell? ⟨w.heap.size, 1, none⟩ = some (.int .i64 (cut : Int)) ∧ W.cell? ⟨k11, 0, none⟩ = some (.int .i64 (p : Int)) ∧ W.cell? ⟨k11, 1, none⟩ = some (.int .i64 (r : Int))) := Lib.hid (fun W k => ⟨(HM5.out W k).1.cell (i := 0) rfl, (HM5.out W k).1.cell (i := 1) rfl, (HM5.out W k).2.2.2.2.2.2.2.2.2.1.cell (i := 0) rfl, (HM5.out W k).2.2.2.2.2.2.2.2.2.1.cell (i := 1) rfl⟩)
  have HT3 := Lib.hid (fun W m' h' (hst : St L X b0 g s n (u + PS + PT) h' m' W) => wi_take (cut := (cut : Int)) hst HSZ.out.2.2.2.2.2.1 ⟨HSZ.out.2.1, HPP.out.2.2.2.2.1⟩ ⟨HSZ.out.2.2.2.1, HPP.out.2.2.2.2.2.2⟩ HPP.out.2.2.1 (by have := HPP.out; omega))
  have HT4 := Lib.hid (fun W m' h' (hst : St L X b0 g s n (u + PS + PT + PU) h' m' W) => wi_take (cut := (cut : Int)) hst HSZ.out.2.2.2.2.2.1 ⟨HSZ.out.2.1, HPP.out.2.2.2.2.1⟩ ⟨HSZ.out.2.2.2.1, HPP.out.2.2.2.2.2.2⟩ HPP.out.2.2.1 (by have := HPP.out; omega))
  dsimp only [Prt.val] at HT3 HT4
  have hst5 := st5
  clear HM HK HT1 HT2 MS MT st5 kq5 g51 g52 g53 hst hwb
  go_upto_region 6 with (fail)
  go_cut [24, 25] from 67 to 82 (fun x y wx => ∃ gu gp : Nat, x = .pointer (some ⟨gu, 0, none⟩) ∧ y = .pointer (some ⟨gp, 0, none⟩) ∧ V5.heap.size ≤ gu ∧ V5.heap.size ≤ gp ∧ gu ≠ gp ∧ Ms wx gu #[.int .i64 (p : Int), .int .i64 (r : Int), .int .i64 (r : Int), .int .i64 (0 : Int), .slice (some ⟨s, (u + PS + PT), none⟩) PU PU] 82 ∧ Ms wx gp #[.int .i64 (p : Int), .int .i64 (r : Int), .int .i64 (r : Int), .int .i64 (0 : Int), .slice (some ⟨s, (u + PS + PT + PU), none⟩) PU PU] 82 ∧ St L X b0 g s n (u + PS + PT + PU + PU) (max (max (max (max h (u + PS)) (u + PS + PT)) (u + PS + PT + PU)) (u + PS + PT + PU + PU)) (clM (clM (clM (clM m s u PS) s (u + PS) PT) s (u + PS + PT) PU) s (u + PS + PT + PU) PU) wx ∧ Kq X g V5 wx)
  case first =>
    as_aux_lemma =>
    clear HM5 HIN HSZ HS0 HPP HE1 HE2 HE3 HQQ1 HQQ2 HQQ3 HSV HF1 HF2 HF3 HGV HST5 HKQ5
    have HG6 : Hid (w.heap.size ≤ V5.heap.size) := Lib.hid (by have := HG5.out; have := HWV.out; omega)
    have hwb := HG6.out
    clear HWV HG5 HG6
    refine wp_region_held_drew (S := fun W => W.cell? ⟨w.heap.size, 0, none⟩ = some (.pointer (some ⟨g, 0, none⟩)) ∧ W.cell? ⟨w.heap.size, 1, none⟩ = some (.int .i64 (cut : Int)) ∧ W.cell? ⟨k11, 0, none⟩ = some (.int .i64 (p : Int)) ∧ W.cell? ⟨k11, 1, none⟩ = some (.int .i64 (r : Int))) (by kernel_rfl) ?_ (fun hHeld => ?_)
    · (try dsimp only); exact HK6.out _ (Kq.drew (Kq.refl _ _ _))
    refine wpAnyH_take (i := 0) (oi := { dst := some 67, op := _, type := _, pos := _, after := _, guard := _ }) (v := ?v0b67) rfl (by kernel_rfl) (by kernel_rfl) (by kernel_rfl) (fun _ _ _ h => h) (Or.inl ⟨by rfl, ?hy0b67⟩) (by assumption) ?rest0b67
    case hy0b67 => intro w hSw; (try dsimp only at hSw); go_simp; first | done | with_reducible rfl
    simp only [Act.put, List.setIfInBounds_toArray, List.set_cons_zero, List.set_cons_succ]
    refine wpAnyH_take (i := 1) (oi := { dst := some 68, op := _, type := _, pos := _, after := _, guard := _ }) (v := ?v1b67) rfl (by kernel_rfl) (by kernel_rfl) (by kernel_rfl) (fun _ _ _ h => h) (Or.inl ⟨by rfl, ?hy1b67⟩) (by assumption) ?rest1b67
    case hy1b67 => intro w hSw; (try dsimp only at hSw); go_simp; first | done | with_reducible rfl
    simp only [Act.put, List.setIfInBounds_toArray, List.set_cons_zero, List.set_cons_succ]
    refine wpAnyH_take (i := 2) (oi := { dst := some 69, op := _, type := _, pos := _, after := _, guard := _ }) (v := ?v2b67) rfl (by kernel_rfl) (by kernel_rfl) (by kernel_rfl) (fun _ _ _ h => h) (Or.inl ⟨by rfl, ?hy2b67⟩) (by assumption) ?rest2b67
    case hy2b67 => intro w hSw; (try dsimp only at hSw); go_simp; first | done | with_reducible rfl
    simp only [Act.put, List.setIfInBounds_toArray, List.set_cons_zero, List.set_cons_succ]
    refine wpAnyH_take (i := 3) (oi := { dst := some 70, op := _, type := _, pos := _, after := _, guard := _ }) (v := ?v3b67) rfl (by kernel_rfl) (by kernel_rfl) (by kernel_rfl) (fun _ _ _ h => h) (Or.inl ⟨by rfl, ?hy3b67⟩) (by assumption) ?rest3b67
    case hy3b67 => intro w hSw; (try dsimp only at hSw); go_simp; first | done | with_reducible rfl
    simp only [Act.put, List.setIfInBounds_toArray, List.set_cons_zero, List.set_cons_succ]
    refine wpAnyH_take (i := 4) (oi := { dst := some 71, op := _, type := _, pos := _, after := _, guard := _ }) (v := ?v4b67) rfl (by kernel_rfl) (by kernel_rfl) (by kernel_rfl) (fun _ _ _ h => h) (Or.inl ⟨by rfl, ?hy4b67⟩) (by assumption) ?rest4b67
    case hy4b67 => intro w hSw; (try dsimp only at hSw); go_simp; first | done | with_reducible rfl
    simp only [Act.put, List.setIfInBounds_toArray, List.set_cons_zero, List.set_cons_succ]
    refine wpAnyH_take (i := 5) (oi := { dst := some 72, op := _, type := _, pos := _, after := _, guard := _ }) (v := ?v5b67) rfl (by kernel_rfl) (by kernel_rfl) (by kernel_rfl) (fun _ _ _ h => h) (Or.inl ⟨by rfl, ?hy5b67⟩) (by assumption) ?rest5b67
    case hy5b67 => intro w hSw; (try dsimp only at hSw); go_simp; first | done | with_reducible rfl
    simp only [Act.put, List.setIfInBounds_toArray, List.set_cons_zero, List.set_cons_succ]
    refine wpAnyH_take (i := 6) (oi := { dst := some 73, op := _, type := _, pos := _, after := _, guard := _ }) (v := ?v6b67) rfl (by kernel_rfl) (by kernel_rfl) (by kernel_rfl) (fun _ _ _ h => h) (Or.inl ⟨by rfl, ?hy6b67⟩) (by assumption) ?rest6b67
    case hy6b67 => intro w hSw; (try dsimp only at hSw); go_simp; first | done | with_reducible rfl
    simp only [Act.put, List.setIfInBounds_toArray, List.set_cons_zero, List.set_cons_succ]
    refine wpAnyH_take (i := 8) (oi := { dst := some 75, op := _, type := _, pos := _, after := _, guard := _ }) (v := ?v8b67) rfl (by kernel_rfl) (by kernel_rfl) (by kernel_rfl) (fun _ _ _ h => h) (Or.inl ⟨by rfl, ?hy8b67⟩) (by assumption) ?rest8b67
    case hy8b67 => intro w hSw; (try dsimp only at hSw); go_simp; first | done | with_reducible rfl
    simp only [Act.put, List.setIfInBounds_toArray, List.set_cons_zero, List.set_cons_succ]
    refine wpAnyH_take (i := 9) (oi := { dst := some 76, op := _, type := _, pos := _, after := _, guard := _ }) (v := ?v9b67) rfl (by kernel_rfl) (by kernel_rfl) (by kernel_rfl) (fun _ _ _ h => h) (Or.inl ⟨by rfl, ?hy9b67⟩) (by assumption) ?rest9b67
    case hy9b67 => intro w hSw; (try dsimp only at hSw); go_simp; first | done | with_reducible rfl
    simp only [Act.put, List.setIfInBounds_toArray, List.set_cons_zero, List.set_cons_succ]
    refine wpAnyH_take (i := 10) (oi := { dst := some 77, op := _, type := _, pos := _, after := _, guard := _ }) (v := ?v10b67) rfl (by kernel_rfl) (by kernel_rfl) (by kernel_rfl) (fun _ _ _ h => h) (Or.inl ⟨by rfl, ?hy10b67⟩) (by assumption) ?rest10b67
    case hy10b67 => intro w hSw; (try dsimp only at hSw); go_simp; first | done | with_reducible rfl
    simp only [Act.put, List.setIfInBounds_toArray, List.set_cons_zero, List.set_cons_succ]
    refine wpAnyH_take (i := 11) (oi := { dst := some 78, op := _, type := _, pos := _, after := _, guard := _ }) (v := ?v11b67) rfl (by kernel_rfl) (by kernel_rfl) (by kernel_rfl) (fun _ _ _ h => h) (Or.inl ⟨by rfl, ?hy11b67⟩) (by assumption) ?rest11b67
    case hy11b67 => intro w hSw; (try dsimp only at hSw); go_simp; first | done | with_reducible rfl
    simp only [Act.put, List.setIfInBounds_toArray, List.set_cons_zero, List.set_cons_succ]
    refine wpAnyH_take (i := 12) (oi := { dst := some 79, op := _, type := _, pos := _, after := _, guard := _ }) (v := ?v12b67) rfl (by kernel_rfl) (by kernel_rfl) (by kernel_rfl) (fun _ _ _ h => h) (Or.inl ⟨by rfl, ?hy12b67⟩) (by assumption) ?rest12b67
    case hy12b67 => intro w hSw; (try dsimp only at hSw); go_simp; first | done | with_reducible rfl
    simp only [Act.put, List.setIfInBounds_toArray, List.set_cons_zero, List.set_cons_succ]
    refine wpAnyH_take (i := 13) (oi := { dst := some 80, op := _, type := _, pos := _, after := _, guard := _ }) (v := ?v13b67) rfl (by kernel_rfl) (by kernel_rfl) (by kernel_rfl) (fun _ _ _ h => h) (Or.inl ⟨by rfl, ?hy13b67⟩) (by assumption) ?rest13b67
    case hy13b67 => intro w hSw; (try dsimp only at hSw); go_simp; first | done | with_reducible rfl
    simp only [Act.put, List.setIfInBounds_toArray, List.set_cons_zero, List.set_cons_succ]
    refine wpAnyH_take (i := 14) (oi := { dst := some 81, op := _, type := _, pos := _, after := _, guard := _ }) (v := ?v14b67) rfl (by kernel_rfl) (by kernel_rfl) (by kernel_rfl) (fun _ _ _ h => h) (Or.inl ⟨by rfl, ?hy14b67⟩) (by assumption) ?rest14b67
    case hy14b67 => intro w hSw; (try dsimp only at hSw); go_simp; first | done | with_reducible rfl
    simp only [Act.put, List.setIfInBounds_toArray, List.set_cons_zero, List.set_cons_succ]
    have kq0 : Kq X g V5 V5.drew := Kq.drew (Kq.refl _ _ _)
    have st0 := St.drew hst5
    apply join_law (φ := fun g1 g2 v => V5.heap.size ≤ g1 ∧ V5.heap.size ≤ g2 ∧ g1 ≠ g2 ∧ Ms v g1 #[.int .i64 0, .int .i64 0, .int .i64 0, .int .i64 0, .slice none 0 0] 82 ∧ Ms v g2 #[.int .i64 0, .int .i64 0, .int .i64 0, .int .i64 0, .slice none 0 0] 82 ∧ St L X b0 g s n (u + PS + PT + PU + PU) (max (max (max (max h (u + PS)) (u + PS + PT)) (u + PS + PT + PU)) (u + PS + PT + PU + PU)) (clM (clM (clM (clM m s u PS) s (u + PS) PT) s (u + PS + PT) PU) s (u + PS + PT + PU) PU) v ∧ Kq X g V5 v) (l2 := #[true, true, true, true, true, true, true, true, true, true, true, true, true, true, true, true, true, true, false, false])
    case main =>
      intro LEAF
      refine wpAnyH_ready (rs := [7, 16, 17]) (by kernel_rfl) (by simp) ?_
      refine AllReadyH.cons rfl (fun K hK => ?_) (AllReadyH.cons rfl (fun K hK => ?_) (AllReadyH.cons rfl (fun K hK => ?_) AllReadyH.nil))
      · go_simp
        refine (HT3.out _ _ _ st0).mono ?_
        rintro e vx1 ⟨rfl, st1, kz⟩
        have kq1 := kq0.trans kz
        refine hK.out _ _ ?_ (fun hHeld => ?_)
        · exact HK6.out _ kq1
        clear hK K kz
        try simp only [Act.put, List.setIfInBounds_toArray, List.set_cons_zero, List.set_cons_succ]
        refine wpAnyH_ready (rs := [15, 16, 17]) (by kernel_rfl) (by simp) ?_
        refine AllReadyH.cons rfl (fun K hK => ?_) (AllReadyH.cons rfl (fun K hK => ?_) (AllReadyH.cons rfl (fun K hK => ?_) AllReadyH.nil))
        · go_simp
          refine (HT4.out _ _ _ st1).mono ?_
          rintro e vx2 ⟨rfl, st2, kz⟩
          have kq2 := kq1.trans kz
          refine hK.out _ _ ?_ (fun hHeld => ?_)
          · exact HK6.out _ kq2
          clear hK K kz
          try simp only [Act.put, List.setIfInBounds_toArray, List.set_cons_zero, List.set_cons_succ]
          refine wpAnyH_ready (rs := [16, 17]) (by kernel_rfl) (by simp) ?_
          refine AllReadyH.cons rfl (fun K hK => ?_) (AllReadyH.cons rfl (fun K hK => ?_) AllReadyH.nil)
          · go_simp
            refine hK.out _ _ ?_ (fun hHeld => ?_)
            · exact HK6.out _ (kq2.alloc _)
            clear hK K
            try simp only [Act.put, List.setIfInBounds_toArray, List.set_cons_zero, List.set_cons_succ]
            have kq3_ := kq2.alloc (.cells #[.int .i64 0, .int .i64 0, .int .i64 0, .int .i64 0, .slice none 0 0] 82)
            have st3_ := st2.alloc (.cells #[.int .i64 0, .int .i64 0, .int .i64 0, .int .i64 0, .slice none 0 0] 82)
            obtain ⟨jj, F3⟩ := mbox vx2 #[.int .i64 0, .int .i64 0, .int .i64 0, .int .i64 0, .slice none 0 0] 82 _ rfl
            obtain ⟨vx3, hv⟩ : ∃ v, v = (vx2.alloc (.cells #[.int .i64 0, .int .i64 0, .int .i64 0, .int .i64 0, .slice none 0 0] 82)) := ⟨_, rfl⟩
            obtain ⟨ga3, hga⟩ : ∃ v, v = vx2.heap.size := ⟨_, rfl⟩
            have hg3 : V5.heap.size ≤ ga3 := by rw [hga]; exact kq2.size
            simp only [← hv, ← hga] at kq3_ st3_ F3 ⊢
            have kq3 := kq3_
            have st3 := st3_
            clear kq3_ st3_ jj hv hga hHeld
            have hHeld := HK6.out _ kq3
            refine wpAnyH_ready (rs := [17]) (by kernel_rfl) (by simp) ?_
            refine AllReadyH.cons rfl (fun K hK => ?_) AllReadyH.nil
            go_simp
            refine hK.out _ _ ?_ (fun hHeld => ?_)
            · exact HK6.out _ (kq3.alloc _)
            clear hK K
            try simp only [Act.put, List.setIfInBounds_toArray, List.set_cons_zero, List.set_cons_succ]
            have kq4_ := kq3.alloc (.cells #[.int .i64 0, .int .i64 0, .int .i64 0, .int .i64 0, .slice none 0 0] 82)
            have st4_ := st3.alloc (.cells #[.int .i64 0, .int .i64 0, .int .i64 0, .int .i64 0, .slice none 0 0] 82)
            obtain ⟨jj, F4⟩ := mbox vx3 #[.int .i64 0, .int .i64 0, .int .i64 0, .int .i64 0, .slice none 0 0] 82 _ rfl
            have F3_4 := F3.behind jj
            have ne4 : ga3 ≠ vx3.heap.size := by have := F3.lt; omega
            obtain ⟨vx4, hv⟩ : ∃ v, v = (vx3.alloc (.cells #[.int .i64 0, .int .i64 0, .int .i64 0, .int .i64 0, .slice none 0 0] 82)) := ⟨_, rfl⟩
            obtain ⟨ga4, hga⟩ : ∃ v, v = vx3.heap.size := ⟨_, rfl⟩
            have hg4 : V5.heap.size ≤ ga4 := by rw [hga]; exact kq3.size
            simp only [← hv, ← hga] at kq4_ st4_ F4 F3_4 ne4 ⊢
            have kq4 := kq4_
            have st4 := st4_
            clear kq4_ st4_ jj hv hga hHeld
            have hHeld := HK6.out _ kq4
            exact LEAF ga3 ga4 vx4 _ ⟨by assumption, by assumption, by first | assumption | exact Ne.symm (by assumption), F3_4, F4, st4, kq4⟩ (by kernel_rfl)
          · go_simp
            refine hK.out _ _ ?_ (fun hHeld => ?_)
            · exact HK6.out _ (kq2.alloc _)
            clear hK K
            try simp only [Act.put, List.setIfInBounds_toArray, List.set_cons_zero, List.set_cons_succ]
            have kq5_ := kq2.alloc (.cells #[.int .i64 0, .int .i64 0, .int .i64 0, .int .i64 0, .slice none 0 0] 82)
            have st5_ := st2.alloc (.cells #[.int .i64 0, .int .i64 0, .int .i64 0, .int .i64 0, .slice none 0 0] 82)
            obtain ⟨jj, F5⟩ := mbox vx2 #[.int .i64 0, .int .i64 0, .int .i64 0, .int .i64 0, .slice none 0 0] 82 _ rfl
            obtain ⟨vx5, hv⟩ : ∃ v, v = (vx2.alloc (.cells #[.int .i64 0, .int .i64 0, .int .i64 0, .int .i64 0, .slice none 0 0] 82)) := ⟨_, rfl⟩
            obtain ⟨ga5, hga⟩ : ∃ v, v = vx2.heap.size := ⟨_, rfl⟩
            have hg5 : V5.heap.size ≤ ga5 := by rw [hga]; exact kq2.size
            simp only [← hv, ← hga] at kq5_ st5_ F5 ⊢
            have kq5 := kq5_
            have st5 := st5_
            clear kq5_ st5_ jj hv hga hHeld
            have hHeld := HK6.out _ kq5
            refine wpAnyH_ready (rs := [16]) (by kernel_rfl) (by simp) ?_
            refine AllReadyH.cons rfl (fun K hK => ?_) AllReadyH.nil
            go_simp
            refine hK.out _ _ ?_ (fun hHeld => ?_)
            · exact HK6.out _ (kq5.alloc _)
            clear hK K
            try simp only [Act.put, List.setIfInBounds_toArray, List.set_cons_zero, List.set_cons_succ]
            have kq6_ := kq5.alloc (.cells #[.int .i64 0, .int .i64 0, .int .i64 0, .int .i64 0, .slice none 0 0] 82)
            have st6_ := st5.alloc (.cells #[.int .i64 0, .int .i64 0, .int .i64 0, .int .i64 0, .slice none 0 0] 82)
            obtain ⟨jj, F6⟩ := mbox vx5 #[.int .i64 0, .int .i64 0, .int .i64 0, .int .i64 0, .slice none 0 0] 82 _ rfl
            have F5_6 := F5.behind jj
            have ne6 : ga5 ≠ vx5.heap.size := by have := F5.lt; omega
            obtain ⟨vx6, hv⟩ : ∃ v, v = (vx5.alloc (.cells #[.int .i64 0, .int .i64 0, .int .i64 0, .int .i64 0, .slice none 0 0] 82)) := ⟨_, rfl⟩
            obtain ⟨ga6, hga⟩ : ∃ v, v = vx5.heap.size := ⟨_, rfl⟩
            have hg6 : V5.heap.size ≤ ga6 := by rw [hga]; exact kq5.size
            simp only [← hv, ← hga] at kq6_ st6_ F6 F5_6 ne6 ⊢
            have kq6 := kq6_
            have st6 := st6_
            clear kq6_ st6_ jj hv hga hHeld
            have hHeld := HK6.out _ kq6
            exact LEAF ga6 ga5 vx6 _ ⟨by assumption, by assumption, by first | assumption | exact Ne.symm (by assumption), F6, F5_6, st6, kq6⟩ (by kernel_rfl)
        · go_simp
          refine hK.out _ _ ?_ (fun hHeld => ?_)
          · exact HK6.out _ (kq1.alloc _)
          clear hK K
          try simp only [Act.put, List.setIfInBounds_toArray, List.set_cons_zero, List.set_cons_succ]
          have kq7_ := kq1.alloc (.cells #[.int .i64 0, .int .i64 0, .int .i64 0, .int .i64 0, .slice none 0 0] 82)
          have st7_ := st1.alloc (.cells #[.int .i64 0, .int .i64 0, .int .i64 0, .int .i64 0, .slice none 0 0] 82)
          obtain ⟨jj, F7⟩ := mbox vx1 #[.int .i64 0, .int .i64 0, .int .i64 0, .int .i64 0, .slice none 0 0] 82 _ rfl
          obtain ⟨vx7, hv⟩ : ∃ v, v = (vx1.alloc (.cells #[.int .i64 0, .int .i64 0, .int .i64 0, .int .i64 0, .slice none 0 0] 82)) := ⟨_, rfl⟩
          obtain ⟨ga7, hga⟩ : ∃ v, v = vx1.heap.size := ⟨_, rfl⟩
          have hg7 : V5.heap.size ≤ ga7 := by rw [hga]; exact kq1.size
          simp only [← hv, ← hga] at kq7_ st7_ F7 ⊢
          have kq7 := kq7_
          have st7 := st7_
          clear kq7_ st7_ jj hv hga hHeld
          have hHeld := HK6.out _ kq7
          refine wpAnyH_ready (rs := [15, 17]) (by kernel_rfl) (by simp) ?_
          refine AllReadyH.cons rfl (fun K hK => ?_) (AllReadyH.cons rfl (fun K hK => ?_) AllReadyH.nil)
          · go_simp
            refine (HT4.out _ _ _ st7).mono ?_
            rintro e vx8 ⟨rfl, st8, kz⟩
            have kq8 := kq7.trans kz
            have F7_8 := kz.ms F7 (fun hh => by have := HFR.out.1 _ hh; omega) (by have := HFR.out; omega)
            refine hK.out _ _ ?_ (fun hHeld => ?_)
            · exact HK6.out _ kq8
            clear hK K kz
            try simp only [Act.put, List.setIfInBounds_toArray, List.set_cons_zero, List.set_cons_succ]
            refine wpAnyH_ready (rs := [17]) (by kernel_rfl) (by simp) ?_
            refine AllReadyH.cons rfl (fun K hK => ?_) AllReadyH.nil
            go_simp
            refine hK.out _ _ ?_ (fun hHeld => ?_)
            · exact HK6.out _ (kq8.alloc _)
            clear hK K
            try simp only [Act.put, List.setIfInBounds_toArray, List.set_cons_zero, List.set_cons_succ]
            have kq9_ := kq8.alloc (.cells #[.int .i64 0, .int .i64 0, .int .i64 0, .int .i64 0, .slice none 0 0] 82)
            have st9_ := st8.alloc (.cells #[.int .i64 0, .int .i64 0, .int .i64 0, .int .i64 0, .slice none 0 0] 82)
            obtain ⟨jj, F9⟩ := mbox vx8 #[.int .i64 0, .int .i64 0, .int .i64 0, .int .i64 0, .slice none 0 0] 82 _ rfl
            have F7_8_9 := F7_8.behind jj
            have ne9 : ga7 ≠ vx8.heap.size := by have := F7_8.lt; omega
            obtain ⟨vx9, hv⟩ : ∃ v, v = (vx8.alloc (.cells #[.int .i64 0, .int .i64 0, .int .i64 0, .int .i64 0, .slice none 0 0] 82)) := ⟨_, rfl⟩
            obtain ⟨ga9, hga⟩ : ∃ v, v = vx8.heap.size := ⟨_, rfl⟩
            have hg9 : V5.heap.size ≤ ga9 := by rw [hga]; exact kq8.size
            simp only [← hv, ← hga] at kq9_ st9_ F9 F7_8_9 ne9 ⊢
            have kq9 := kq9_
            have st9 := st9_
            clear kq9_ st9_ jj hv hga hHeld
            have hHeld := HK6.out _ kq9
            exact LEAF ga7 ga9 vx9 _ ⟨by assumption, by assumption, by first | assumption | exact Ne.symm (by assumption), F7_8_9, F9, st9, kq9⟩ (by kernel_rfl)
          · go_simp
            refine hK.out _ _ ?_ (fun hHeld => ?_)
            · exact HK6.out _ (kq7.alloc _)
            clear hK K
            try simp only [Act.put, List.setIfInBounds_toArray, List.set_cons_zero, List.set_cons_succ]
            have kq10_ := kq7.alloc (.cells #[.int .i64 0, .int .i64 0, .int .i64 0, .int .i64 0, .slice none 0 0] 82)
            have st10_ := st7.alloc (.cells #[.int .i64 0, .int .i64 0, .int .i64 0, .int .i64 0, .slice none 0 0] 82)
            obtain ⟨jj, F10⟩ := mbox vx7 #[.int .i64 0, .int .i64 0, .int .i64 0, .int .i64 0, .slice none 0 0] 82 _ rfl
            have F7_10 := F7.behind jj
            have ne10 : ga7 ≠ vx7.heap.size := by have := F7.lt; omega
            obtain ⟨vx10, hv⟩ : ∃ v, v = (vx7.alloc (.cells #[.int .i64 0, .int .i64 0, .int .i64 0, .int .i64 0, .slice none 0 0] 82)) := ⟨_, rfl⟩
            obtain ⟨ga10, hga⟩ : ∃ v, v = vx7.heap.size := ⟨_, rfl⟩
            have hg10 : V5.heap.size ≤ ga10 := by rw [hga]; exact kq7.size
            simp only [← hv, ← hga] at kq10_ st10_ F10 F7_10 ne10 ⊢
            have kq10 := kq10_
            have st10 := st10_
            clear kq10_ st10_ jj hv hga hHeld
            have hHeld := HK6.out _ kq10
            refine wpAnyH_ready (rs := [15]) (by kernel_rfl) (by simp) ?_
            refine AllReadyH.cons rfl (fun K hK => ?_) AllReadyH.nil
            go_simp
            refine (HT4.out _ _ _ st10).mono ?_
            rintro e vx11 ⟨rfl, st11, kz⟩
            have kq11 := kq10.trans kz
            have F7_10_11 := kz.ms F7_10 (fun hh => by have := HFR.out.1 _ hh; omega) (by have := HFR.out; omega)
            have F10_11 := kz.ms F10 (fun hh => by have := HFR.out.1 _ hh; omega) (by have := HFR.out; omega)
            refine hK.out _ _ ?_ (fun hHeld => ?_)
            · exact HK6.out _ kq11
            clear hK K kz
            try simp only [Act.put, List.setIfInBounds_toArray, List.set_cons_zero, List.set_cons_succ]
            exact LEAF ga7 ga10 vx11 _ ⟨by assumption, by assumption, by first | assumption | exact Ne.symm (by assumption), F7_10_11, F10_11, st11, kq11⟩ (by kernel_rfl)
        · go_simp
          refine hK.out _ _ ?_ (fun hHeld => ?_)
          · exact HK6.out _ (kq1.alloc _)
          clear hK K
          try simp only [Act.put, List.setIfInBounds_toArray, List.set_cons_zero, List.set_cons_succ]
          have kq12_ := kq1.alloc (.cells #[.int .i64 0, .int .i64 0, .int .i64 0, .int .i64 0, .slice none 0 0] 82)
          have st12_ := st1.alloc (.cells #[.int .i64 0, .int .i64 0, .int .i64 0, .int .i64 0, .slice none 0 0] 82)
          obtain ⟨jj, F12⟩ := mbox vx1 #[.int .i64 0, .int .i64 0, .int .i64 0, .int .i64 0, .slice none 0 0] 82 _ rfl
          obtain ⟨vx12, hv⟩ : ∃ v, v = (vx1.alloc (.cells #[.int .i64 0, .int .i64 0, .int .i64 0, .int .i64 0, .slice none 0 0] 82)) := ⟨_, rfl⟩
          obtain ⟨ga12, hga⟩ : ∃ v, v = vx1.heap.size := ⟨_, rfl⟩
          have hg12 : V5.heap.size ≤ ga12 := by rw [hga]; exact kq1.size
          simp only [← hv, ← hga] at kq12_ st12_ F12 ⊢
          have kq12 := kq12_
          have st12 := st12_
          clear kq12_ st12_ jj hv hga hHeld
          have hHeld := HK6.out _ kq12
          refine wpAnyH_ready (rs := [15, 16]) (by kernel_rfl) (by simp) ?_
          refine AllReadyH.cons rfl (fun K hK => ?_) (AllReadyH.cons rfl (fun K hK => ?_) AllReadyH.nil)
          · go_simp
            refine (HT4.out _ _ _ st12).mono ?_
            rintro e vx13 ⟨rfl, st13, kz⟩
            have kq13 := kq12.trans kz
            have F12_13 := kz.ms F12 (fun hh => by have := HFR.out.1 _ hh; omega) (by have := HFR.out; omega)
            refine hK.out _ _ ?_ (fun hHeld => ?_)
            · exact HK6.out _ kq13
            clear hK K kz
            try simp only [Act.put, List.setIfInBounds_toArray, List.set_cons_zero, List.set_cons_succ]
            refine wpAnyH_ready (rs := [16]) (by kernel_rfl) (by simp) ?_
            refine AllReadyH.cons rfl (fun K hK => ?_) AllReadyH.nil
            go_simp
            refine hK.out _ _ ?_ (fun hHeld => ?_)
            · exact HK6.out _ (kq13.alloc _)
            clear hK K
            try simp only [Act.put, List.setIfInBounds_toArray, List.set_cons_zero, List.set_cons_succ]
            have kq14_ := kq13.alloc (.cells #[.int .i64 0, .int .i64 0, .int .i64 0, .int .i64 0, .slice none 0 0] 82)
            have st14_ := st13.alloc (.cells #[.int .i64 0, .int .i64 0, .int .i64 0, .int .i64 0, .slice none 0 0] 82)
            obtain ⟨jj, F14⟩ := mbox vx13 #[.int .i64 0, .int .i64 0, .int .i64 0, .int .i64 0, .slice none 0 0] 82 _ rfl
            have F12_13_14 := F12_13.behind jj
            have ne14 : ga12 ≠ vx13.heap.size := by have := F12_13.lt; omega
            obtain ⟨vx14, hv⟩ : ∃ v, v = (vx13.alloc (.cells #[.int .i64 0, .int .i64 0, .int .i64 0, .int .i64 0, .slice none 0 0] 82)) := ⟨_, rfl⟩
            obtain ⟨ga14, hga⟩ : ∃ v, v = vx13.heap.size := ⟨_, rfl⟩
            have hg14 : V5.heap.size ≤ ga14 := by rw [hga]; exact kq13.size
            simp only [← hv, ← hga] at kq14_ st14_ F14 F12_13_14 ne14 ⊢
            have kq14 := kq14_
            have st14 := st14_
            clear kq14_ st14_ jj hv hga hHeld
            have hHeld := HK6.out _ kq14
            exact LEAF ga14 ga12 vx14 _ ⟨by assumption, by assumption, by first | assumption | exact Ne.symm (by assumption), F14, F12_13_14, st14, kq14⟩ (by kernel_rfl)
          · go_simp
            refine hK.out _ _ ?_ (fun hHeld => ?_)
            · exact HK6.out _ (kq12.alloc _)
            clear hK K
            try simp only [Act.put, List.setIfInBounds_toArray, List.set_cons_zero, List.set_cons_succ]
            have kq15_ := kq12.alloc (.cells #[.int .i64 0, .int .i64 0, .int .i64 0, .int .i64 0, .slice none 0 0] 82)
            have st15_ := st12.alloc (.cells #[.int .i64 0, .int .i64 0, .int .i64 0, .int .i64 0, .slice none 0 0] 82)
            obtain ⟨jj, F15⟩ := mbox vx12 #[.int .i64 0, .int .i64 0, .int .i64 0, .int .i64 0, .slice none 0 0] 82 _ rfl
            have F12_15 := F12.behind jj
            have ne15 : ga12 ≠ vx12.heap.size := by have := F12.lt; omega
            obtain ⟨vx15, hv⟩ : ∃ v, v = (vx12.alloc (.cells #[.int .i64 0, .int .i64 0, .int .i64 0, .int .i64 0, .slice none 0 0] 82)) := ⟨_, rfl⟩
            obtain ⟨ga15, hga⟩ : ∃ v, v = vx12.heap.size := ⟨_, rfl⟩
            have hg15 : V5.heap.size ≤ ga15 := by rw [hga]; exact kq12.size
            simp only [← hv, ← hga] at kq15_ st15_ F15 F12_15 ne15 ⊢
            have kq15 := kq15_
            have st15 := st15_
            clear kq15_ st15_ jj hv hga hHeld
            have hHeld := HK6.out _ kq15
            refine wpAnyH_ready (rs := [15]) (by kernel_rfl) (by simp) ?_
            refine AllReadyH.cons rfl (fun K hK => ?_) AllReadyH.nil
            go_simp
            refine (HT4.out _ _ _ st15).mono ?_
            rintro e vx16 ⟨rfl, st16, kz⟩
            have kq16 := kq15.trans kz
            have F12_15_16 := kz.ms F12_15 (fun hh => by have := HFR.out.1 _ hh; omega) (by have := HFR.out; omega)
            have F15_16 := kz.ms F15 (fun hh => by have := HFR.out.1 _ hh; omega) (by have := HFR.out; omega)
            refine hK.out _ _ ?_ (fun hHeld => ?_)
            · exact HK6.out _ kq16
            clear hK K kz
            try simp only [Act.put, List.setIfInBounds_toArray, List.set_cons_zero, List.set_cons_succ]
            exact LEAF ga15 ga12 vx16 _ ⟨by assumption, by assumption, by first | assumption | exact Ne.symm (by assumption), F15_16, F12_15_16, st16, kq16⟩ (by kernel_rfl)
      · go_simp
        refine hK.out _ _ ?_ (fun hHeld => ?_)
        · exact HK6.out _ (kq0.alloc _)
        clear hK K
        try simp only [Act.put, List.setIfInBounds_toArray, List.set_cons_zero, List.set_cons_succ]
        have kq17_ : Kq X g V5 (V5.alloc (.cells #[.int .i64 0, .int .i64 0, .int .i64 0, .int .i64 0, .slice none 0 0] 82)).drew := ((Kq.refl X g V5).alloc (.cells #[.int .i64 0, .int .i64 0, .int .i64 0, .int .i64 0, .slice none 0 0] 82)).drew
        have st17_ := St.drew (hst5.alloc (.cells #[.int .i64 0, .int .i64 0, .int .i64 0, .int .i64 0, .slice none 0 0] 82))
        obtain ⟨jj, F17⟩ := mbox V5 #[.int .i64 0, .int .i64 0, .int .i64 0, .int .i64 0, .slice none 0 0] 82 _ rfl
        replace F17 := F17.drew
        obtain ⟨vx17, hv⟩ : ∃ v, v = (V5.alloc (.cells #[.int .i64 0, .int .i64 0, .int .i64 0, .int .i64 0, .slice none 0 0] 82)).drew := ⟨_, rfl⟩
        obtain ⟨ga17, hga⟩ : ∃ v, v = V5.heap.size := ⟨_, rfl⟩
        have hg17 : V5.heap.size ≤ ga17 := by rw [hga]; exact Nat.le_refl _
        simp only [← hv, ← hga] at kq17_ st17_ F17 ⊢
        have kq17 := kq17_
        have st17 := st17_
        clear kq17_ st17_ jj hv hga hHeld
        have hHeld := HK6.out _ kq17
        refine wpAnyH_ready (rs := [7, 17]) (by kernel_rfl) (by simp) ?_
        refine AllReadyH.cons rfl (fun K hK => ?_) (AllReadyH.cons rfl (fun K hK => ?_) AllReadyH.nil)
        · go_simp
          refine (HT3.out _ _ _ st17).mono ?_
          rintro e vx18 ⟨rfl, st18, kz⟩
          have kq18 := kq17.trans kz
          have F17_18 := kz.ms F17 (fun hh => by have := HFR.out.1 _ hh; omega) (by have := HFR.out; omega)
          refine hK.out _ _ ?_ (fun hHeld => ?_)
          · exact HK6.out _ kq18
          clear hK K kz
          try simp only [Act.put, List.setIfInBounds_toArray, List.set_cons_zero, List.set_cons_succ]
          refine wpAnyH_ready (rs := [15, 17]) (by kernel_rfl) (by simp) ?_
          refine AllReadyH.cons rfl (fun K hK => ?_) (AllReadyH.cons rfl (fun K hK => ?_) AllReadyH.nil)
          · go_simp
            refine (HT4.out _ _ _ st18).mono ?_
            rintro e vx19 ⟨rfl, st19, kz⟩
            have kq19 := kq18.trans kz
            have F17_18_19 := kz.ms F17_18 (fun hh => by have := HFR.out.1 _ hh; omega) (by have := HFR.out; omega)
            refine hK.out _ _ ?_ (fun hHeld => ?_)
            · exact HK6.out _ kq19
            clear hK K kz
            try simp only [Act.put, List.setIfInBounds_toArray, List.set_cons_zero, List.set_cons_succ]
            refine wpAnyH_ready (rs := [17]) (by kernel_rfl) (by simp) ?_
            refine AllReadyH.cons rfl (fun K hK => ?_) AllReadyH.nil
            go_simp
            refine hK.out _ _ ?_ (fun hHeld => ?_)
            · exact HK6.out _ (kq19.alloc _)
            clear hK K
            try simp only [Act.put, List.setIfInBounds_toArray, List.set_cons_zero, List.set_cons_succ]
            have kq20_ := kq19.alloc (.cells #[.int .i64 0, .int .i64 0, .int .i64 0, .int .i64 0, .slice none 0 0] 82)
            have st20_ := st19.alloc (.cells #[.int .i64 0, .int .i64 0, .int .i64 0, .int .i64 0, .slice none 0 0] 82)
            obtain ⟨jj, F20⟩ := mbox vx19 #[.int .i64 0, .int .i64 0, .int .i64 0, .int .i64 0, .slice none 0 0] 82 _ rfl
            have F17_18_19_20 := F17_18_19.behind jj
            have ne20 : ga17 ≠ vx19.heap.size := by have := F17_18_19.lt; omega
            obtain ⟨vx20, hv⟩ : ∃ v, v = (vx19.alloc (.cells #[.int .i64 0, .int .i64 0, .int .i64 0, .int .i64 0, .slice none 0 0] 82)) := ⟨_, rfl⟩
            obtain ⟨ga20, hga⟩ : ∃ v, v = vx19.heap.size := ⟨_, rfl⟩
            have hg20 : V5.heap.size ≤ ga20 := by rw [hga]; exact kq19.size
            simp only [← hv, ← hga] at kq20_ st20_ F20 F17_18_19_20 ne20 ⊢
            have kq20 := kq20_
            have st20 := st20_
            clear kq20_ st20_ jj hv hga hHeld
            have hHeld := HK6.out _ kq20
            exact LEAF ga17 ga20 vx20 _ ⟨by assumption, by assumption, by first | assumption | exact Ne.symm (by assumption), F17_18_19_20, F20, st20, kq20⟩ (by kernel_rfl)
          · go_simp
            refine hK.out _ _ ?_ (fun hHeld => ?_)
            · exact HK6.out _ (kq18.alloc _)
            clear hK K
            try simp only [Act.put, List.setIfInBounds_toArray, List.set_cons_zero, List.set_cons_succ]
            have kq21_ := kq18.alloc (.cells #[.int .i64 0, .int .i64 0, .int .i64 0, .int .i64 0, .slice none 0 0] 82)
            have st21_ := st18.alloc (.cells #[.int .i64 0, .int .i64 0, .int .i64 0, .int .i64 0, .slice none 0 0] 82)
            obtain ⟨jj, F21⟩ := mbox vx18 #[.int .i64 0, .int .i64 0, .int .i64 0, .int .i64 0, .slice none 0 0] 82 _ rfl
            have F17_18_21 := F17_18.behind jj
            have ne21 : ga17 ≠ vx18.heap.size := by have := F17_18.lt; omega
            obtain ⟨vx21, hv⟩ : ∃ v, v = (vx18.alloc (.cells #[.int .i64 0, .int .i64 0, .int .i64 0, .int .i64 0, .slice none 0 0] 82)) := ⟨_, rfl⟩
            obtain ⟨ga21, hga⟩ : ∃ v, v = vx18.heap.size := ⟨_, rfl⟩
            have hg21 : V5.heap.size ≤ ga21 := by rw [hga]; exact kq18.size
            simp only [← hv, ← hga] at kq21_ st21_ F21 F17_18_21 ne21 ⊢
            have kq21 := kq21_
            have st21 := st21_
            clear kq21_ st21_ jj hv hga hHeld
            have hHeld := HK6.out _ kq21
            refine wpAnyH_ready (rs := [15]) (by kernel_rfl) (by simp) ?_
            refine AllReadyH.cons rfl (fun K hK => ?_) AllReadyH.nil
            go_simp
            refine (HT4.out _ _ _ st21).mono ?_
            rintro e vx22 ⟨rfl, st22, kz⟩
            have kq22 := kq21.trans kz
            have F17_18_21_22 := kz.ms F17_18_21 (fun hh => by have := HFR.out.1 _ hh; omega) (by have := HFR.out; omega)
            have F21_22 := kz.ms F21 (fun hh => by have := HFR.out.1 _ hh; omega) (by have := HFR.out; omega)
            refine hK.out _ _ ?_ (fun hHeld => ?_)
            · exact HK6.out _ kq22
            clear hK K kz
            try simp only [Act.put, List.setIfInBounds_toArray, List.set_cons_zero, List.set_cons_succ]
            exact LEAF ga17 ga21 vx22 _ ⟨by assumption, by assumption, by first | assumption | exact Ne.symm (by assumption), F17_18_21_22, F21_22, st22, kq22⟩ (by kernel_rfl)
        · go_simp
          refine hK.out _ _ ?_ (fun hHeld => ?_)
          · exact HK6.out _ (kq17.alloc _)
          clear hK K
          try simp only [Act.put, List.setIfInBounds_toArray, List.set_cons_zero, List.set_cons_succ]
          have kq23_ := kq17.alloc (.cells #[.int .i64 0, .int .i64 0, .int .i64 0, .int .i64 0, .slice none 0 0] 82)
          have st23_ := st17.alloc (.cells #[.int .i64 0, .int .i64 0, .int .i64 0, .int .i64 0, .slice none 0 0] 82)
          obtain ⟨jj, F23⟩ := mbox vx17 #[.int .i64 0, .int .i64 0, .int .i64 0, .int .i64 0, .slice none 0 0] 82 _ rfl
          have F17_23 := F17.behind jj
          have ne23 : ga17 ≠ vx17.heap.size := by have := F17.lt; omega
          obtain ⟨vx23, hv⟩ : ∃ v, v = (vx17.alloc (.cells #[.int .i64 0, .int .i64 0, .int .i64 0, .int .i64 0, .slice none 0 0] 82)) := ⟨_, rfl⟩
          obtain ⟨ga23, hga⟩ : ∃ v, v = vx17.heap.size := ⟨_, rfl⟩
          have hg23 : V5.heap.size ≤ ga23 := by rw [hga]; exact kq17.size
          simp only [← hv, ← hga] at kq23_ st23_ F23 F17_23 ne23 ⊢
          have kq23 := kq23_
          have st23 := st23_
          clear kq23_ st23_ jj hv hga hHeld
          have hHeld := HK6.out _ kq23
          refine wpAnyH_ready (rs := [7]) (by kernel_rfl) (by simp) ?_
          refine AllReadyH.cons rfl (fun K hK => ?_) AllReadyH.nil
          go_simp
          refine (HT3.out _ _ _ st23).mono ?_
          rintro e vx24 ⟨rfl, st24, kz⟩
          have kq24 := kq23.trans kz
          have F17_23_24 := kz.ms F17_23 (fun hh => by have := HFR.out.1 _ hh; omega) (by have := HFR.out; omega)
          have F23_24 := kz.ms F23 (fun hh => by have := HFR.out.1 _ hh; omega) (by have := HFR.out; omega)
          refine hK.out _ _ ?_ (fun hHeld => ?_)
          · exact HK6.out _ kq24
          clear hK K kz
          try simp only [Act.put, List.setIfInBounds_toArray, List.set_cons_zero, List.set_cons_succ]
          refine wpAnyH_ready (rs := [15]) (by kernel_rfl) (by simp) ?_
          refine AllReadyH.cons rfl (fun K hK => ?_) AllReadyH.nil
          go_simp
          refine (HT4.out _ _ _ st24).mono ?_
          rintro e vx25 ⟨rfl, st25, kz⟩
          have kq25 := kq24.trans kz
          have F17_23_24_25 := kz.ms F17_23_24 (fun hh => by have := HFR.out.1 _ hh; omega) (by have := HFR.out; omega)
          have F23_24_25 := kz.ms F23_24 (fun hh => by have := HFR.out.1 _ hh; omega) (by have := HFR.out; omega)
          refine hK.out _ _ ?_ (fun hHeld => ?_)
          · exact HK6.out _ kq25
          clear hK K kz
          try simp only [Act.put, List.setIfInBounds_toArray, List.set_cons_zero, List.set_cons_succ]
          exact LEAF ga17 ga23 vx25 _ ⟨by assumption, by assumption, by first | assumption | exact Ne.symm (by assumption), F17_23_24_25, F23_24_25, st25, kq25⟩ (by kernel_rfl)
      · go_simp
        refine hK.out _ _ ?_ (fun hHeld => ?_)
        · exact HK6.out _ (kq0.alloc _)
        clear hK K
        try simp only [Act.put, List.setIfInBounds_toArray, List.set_cons_zero, List.set_cons_succ]
        have kq26_ : Kq X g V5 (V5.alloc (.cells #[.int .i64 0, .int .i64 0, .int .i64 0, .int .i64 0, .slice none 0 0] 82)).drew := ((Kq.refl X g V5).alloc (.cells #[.int .i64 0, .int .i64 0, .int .i64 0, .int .i64 0, .slice none 0 0] 82)).drew
        have st26_ := St.drew (hst5.alloc (.cells #[.int .i64 0, .int .i64 0, .int .i64 0, .int .i64 0, .slice none 0 0] 82))
        obtain ⟨jj, F26⟩ := mbox V5 #[.int .i64 0, .int .i64 0, .int .i64 0, .int .i64 0, .slice none 0 0] 82 _ rfl
        replace F26 := F26.drew
        obtain ⟨vx26, hv⟩ : ∃ v, v = (V5.alloc (.cells #[.int .i64 0, .int .i64 0, .int .i64 0, .int .i64 0, .slice none 0 0] 82)).drew := ⟨_, rfl⟩
        obtain ⟨ga26, hga⟩ : ∃ v, v = V5.heap.size := ⟨_, rfl⟩
        have hg26 : V5.heap.size ≤ ga26 := by rw [hga]; exact Nat.le_refl _
        simp only [← hv, ← hga] at kq26_ st26_ F26 ⊢
        have kq26 := kq26_
        have st26 := st26_
        clear kq26_ st26_ jj hv hga hHeld
        have hHeld := HK6.out _ kq26
        refine wpAnyH_ready (rs := [7, 16]) (by kernel_rfl) (by simp) ?_
        refine AllReadyH.cons rfl (fun K hK => ?_) (AllReadyH.cons rfl (fun K hK => ?_) AllReadyH.nil)
        · go_simp
          refine (HT3.out _ _ _ st26).mono ?_
          rintro e vx27 ⟨rfl, st27, kz⟩
          have kq27 := kq26.trans kz
          have F26_27 := kz.ms F26 (fun hh => by have := HFR.out.1 _ hh; omega) (by have := HFR.out; omega)
          refine hK.out _ _ ?_ (fun hHeld => ?_)
          · exact HK6.out _ kq27
          clear hK K kz
          try simp only [Act.put, List.setIfInBounds_toArray, List.set_cons_zero, List.set_cons_succ]
          refine wpAnyH_ready (rs := [15, 16]) (by kernel_rfl) (by simp) ?_
          refine AllReadyH.cons rfl (fun K hK => ?_) (AllReadyH.cons rfl (fun K hK => ?_) AllReadyH.nil)
          · go_simp
            refine (HT4.out _ _ _ st27).mono ?_
            rintro e vx28 ⟨rfl, st28, kz⟩
            have kq28 := kq27.trans kz
            have F26_27_28 := kz.ms F26_27 (fun hh => by have := HFR.out.1 _ hh; omega) (by have := HFR.out; omega)
            refine hK.out _ _ ?_ (fun hHeld => ?_)
            · exact HK6.out _ kq28
            clear hK K kz
            try simp only [Act.put, List.setIfInBounds_toArray, List.set_cons_zero, List.set_cons_succ]
            refine wpAnyH_ready (rs := [16]) (by kernel_rfl) (by simp) ?_
            refine AllReadyH.cons rfl (fun K hK => ?_) AllReadyH.nil
            go_simp
            refine hK.out _ _ ?_ (fun hHeld => ?_)
            · exact HK6.out _ (kq28.alloc _)
            clear hK K
            try simp only [Act.put, List.setIfInBounds_toArray, List.set_cons_zero, List.set_cons_succ]
            have kq29_ := kq28.alloc (.cells #[.int .i64 0, .int .i64 0, .int .i64 0, .int .i64 0, .slice none 0 0] 82)
            have st29_ := st28.alloc (.cells #[.int .i64 0, .int .i64 0, .int .i64 0, .int .i64 0, .slice none 0 0] 82)
            obtain ⟨jj, F29⟩ := mbox vx28 #[.int .i64 0, .int .i64 0, .int .i64 0, .int .i64 0, .slice none 0 0] 82 _ rfl
            have F26_27_28_29 := F26_27_28.behind jj
            have ne29 : ga26 ≠ vx28.heap.size := by have := F26_27_28.lt; omega
            obtain ⟨vx29, hv⟩ : ∃ v, v = (vx28.alloc (.cells #[.int .i64 0, .int .i64 0, .int .i64 0, .int .i64 0, .slice none 0 0] 82)) := ⟨_, rfl⟩
            obtain ⟨ga29, hga⟩ : ∃ v, v = vx28.heap.size := ⟨_, rfl⟩
            have hg29 : V5.heap.size ≤ ga29 := by rw [hga]; exact kq28.size
            simp only [← hv, ← hga] at kq29_ st29_ F29 F26_27_28_29 ne29 ⊢
            have kq29 := kq29_
            have st29 := st29_
            clear kq29_ st29_ jj hv hga hHeld
            have hHeld := HK6.out _ kq29
            exact LEAF ga29 ga26 vx29 _ ⟨by assumption, by assumption, by first | assumption | exact Ne.symm (by assumption), F29, F26_27_28_29, st29, kq29⟩ (by kernel_rfl)
          · go_simp
            refine hK.out _ _ ?_ (fun hHeld => ?_)
            · exact HK6.out _ (kq27.alloc _)
            clear hK K
            try simp only [Act.put, List.setIfInBounds_toArray, List.set_cons_zero, List.set_cons_succ]
            have kq30_ := kq27.alloc (.cells #[.int .i64 0, .int .i64 0, .int .i64 0, .int .i64 0, .slice none 0 0] 82)
            have st30_ := st27.alloc (.cells #[.int .i64 0, .int .i64 0, .int .i64 0, .int .i64 0, .slice none 0 0] 82)
            obtain ⟨jj, F30⟩ := mbox vx27 #[.int .i64 0, .int .i64 0, .int .i64 0, .int .i64 0, .slice none 0 0] 82 _ rfl
            have F26_27_30 := F26_27.behind jj
            have ne30 : ga26 ≠ vx27.heap.size := by have := F26_27.lt; omega
            obtain ⟨vx30, hv⟩ : ∃ v, v = (vx27.alloc (.cells #[.int .i64 0, .int .i64 0, .int .i64 0, .int .i64 0, .slice none 0 0] 82)) := ⟨_, rfl⟩
            obtain ⟨ga30, hga⟩ : ∃ v, v = vx27.heap.size := ⟨_, rfl⟩
            have hg30 : V5.heap.size ≤ ga30 := by rw [hga]; exact kq27.size
            simp only [← hv, ← hga] at kq30_ st30_ F30 F26_27_30 ne30 ⊢
            have kq30 := kq30_
            have st30 := st30_
            clear kq30_ st30_ jj hv hga hHeld
            have hHeld := HK6.out _ kq30
            refine wpAnyH_ready (rs := [15]) (by kernel_rfl) (by simp) ?_
            refine AllReadyH.cons rfl (fun K hK => ?_) AllReadyH.nil
            go_simp
            refine (HT4.out _ _ _ st30).mono ?_
            rintro e vx31 ⟨rfl, st31, kz⟩
            have kq31 := kq30.trans kz
            have F26_27_30_31 := kz.ms F26_27_30 (fun hh => by have := HFR.out.1 _ hh; omega) (by have := HFR.out; omega)
            have F30_31 := kz.ms F30 (fun hh => by have := HFR.out.1 _ hh; omega) (by have := HFR.out; omega)
            refine hK.out _ _ ?_ (fun hHeld => ?_)
            · exact HK6.out _ kq31
            clear hK K kz
            try simp only [Act.put, List.setIfInBounds_toArray, List.set_cons_zero, List.set_cons_succ]
            exact LEAF ga30 ga26 vx31 _ ⟨by assumption, by assumption, by first | assumption | exact Ne.symm (by assumption), F30_31, F26_27_30_31, st31, kq31⟩ (by kernel_rfl)
        · go_simp
          refine hK.out _ _ ?_ (fun hHeld => ?_)
          · exact HK6.out _ (kq26.alloc _)
          clear hK K
          try simp only [Act.put, List.setIfInBounds_toArray, List.set_cons_zero, List.set_cons_succ]
          have kq32_ := kq26.alloc (.cells #[.int .i64 0, .int .i64 0, .int .i64 0, .int .i64 0, .slice none 0 0] 82)
          have st32_ := st26.alloc (.cells #[.int .i64 0, .int .i64 0, .int .i64 0, .int .i64 0, .slice none 0 0] 82)
          obtain ⟨jj, F32⟩ := mbox vx26 #[.int .i64 0, .int .i64 0, .int .i64 0, .int .i64 0, .slice none 0 0] 82 _ rfl
          have F26_32 := F26.behind jj
          have ne32 : ga26 ≠ vx26.heap.size := by have := F26.lt; omega
          obtain ⟨vx32, hv⟩ : ∃ v, v = (vx26.alloc (.cells #[.int .i64 0, .int .i64 0, .int .i64 0, .int .i64 0, .slice none 0 0] 82)) := ⟨_, rfl⟩
          obtain ⟨ga32, hga⟩ : ∃ v, v = vx26.heap.size := ⟨_, rfl⟩
          have hg32 : V5.heap.size ≤ ga32 := by rw [hga]; exact kq26.size
          simp only [← hv, ← hga] at kq32_ st32_ F32 F26_32 ne32 ⊢
          have kq32 := kq32_
          have st32 := st32_
          clear kq32_ st32_ jj hv hga hHeld
          have hHeld := HK6.out _ kq32
          refine wpAnyH_ready (rs := [7]) (by kernel_rfl) (by simp) ?_
          refine AllReadyH.cons rfl (fun K hK => ?_) AllReadyH.nil
          go_simp
          refine (HT3.out _ _ _ st32).mono ?_
          rintro e vx33 ⟨rfl, st33, kz⟩
          have kq33 := kq32.trans kz
          have F26_32_33 := kz.ms F26_32 (fun hh => by have := HFR.out.1 _ hh; omega) (by have := HFR.out; omega)
          have F32_33 := kz.ms F32 (fun hh => by have := HFR.out.1 _ hh; omega) (by have := HFR.out; omega)
          refine hK.out _ _ ?_ (fun hHeld => ?_)
          · exact HK6.out _ kq33
          clear hK K kz
          try simp only [Act.put, List.setIfInBounds_toArray, List.set_cons_zero, List.set_cons_succ]
          refine wpAnyH_ready (rs := [15]) (by kernel_rfl) (by simp) ?_
          refine AllReadyH.cons rfl (fun K hK => ?_) AllReadyH.nil
          go_simp
          refine (HT4.out _ _ _ st33).mono ?_
          rintro e vx34 ⟨rfl, st34, kz⟩
          have kq34 := kq33.trans kz
          have F26_32_33_34 := kz.ms F26_32_33 (fun hh => by have := HFR.out.1 _ hh; omega) (by have := HFR.out; omega)
          have F32_33_34 := kz.ms F32_33 (fun hh => by have := HFR.out.1 _ hh; omega) (by have := HFR.out; omega)
          refine hK.out _ _ ?_ (fun hHeld => ?_)
          · exact HK6.out _ kq34
          clear hK K kz
          try simp only [Act.put, List.setIfInBounds_toArray, List.set_cons_zero, List.set_cons_succ]
          exact LEAF ga32 ga26 vx34 _ ⟨by assumption, by assumption, by first | assumption | exact Ne.symm (by assumption), F32_33_34, F26_32_33_34, st34, kq34⟩ (by kernel_rfl)
    case leaf =>
      rintro g1 g2 v l ⟨hb1, hb2, hne, F1, F2, st0, kq0⟩ rfl
      have z0 := F1.cell (i := 0) rfl
      have y0 := F1.f 0
      have z1 := F1.cell (i := 1) rfl
      have y1 := F1.f 1
      have z2 := F1.cell (i := 2) rfl
      have y2 := F1.f 2
      have z3 := F1.cell (i := 3) rfl
      have y3 := F1.f 3
      have z4 := F1.cell (i := 4) rfl
      have y4 := F1.f 4
      refine wpAnyH_ready (rs := [18]) (by kernel_rfl) (by simp) ?_
      refine AllReadyH.cons rfl (fun K hK => ?_) AllReadyH.nil
      go_simp
      refine hK.out _ _ ?_ (fun hHeld => ?_)
      · exact HK6.out _ (kq0.put5 hb1 _ _ _ _ _)
      clear hK K
      try simp only [List.setIfInBounds_toArray, List.set_cons_zero, List.set_cons_succ]
      have E1 := ms_put5 (x := (.int .i64 (p : Int))) (y := (.int .i64 (r : Int))) (z := (.int .i64 (r : Int))) (u := (.int .i64 0)) (v := (.slice (some ⟨s, (u + PS + PT), none⟩) PU PU)) F1
      have E2 := ms_past5 (x := (.int .i64 (p : Int))) (y := (.int .i64 (r : Int))) (z := (.int .i64 (r : Int))) (u := (.int .i64 0)) (v := (.slice (some ⟨s, (u + PS + PT), none⟩) PU PU)) F2 hne.symm
      have kq9 := kq0.put5 (q := g1) hb1 (.int .i64 (p : Int)) (.int .i64 (r : Int)) (.int .i64 (r : Int)) (.int .i64 0) (.slice (some ⟨s, (u + PS + PT), none⟩) PU PU)
      have st9 := st0.put5 (q := g1) (by have := HFR.out; omega) (fun S hS => by have := HFR.out.1 S hS; omega) (by have := HFR.out; omega) (fun S o hl => by have := HLT.out S o hl; omega) (.int .i64 (p : Int)) (.int .i64 (r : Int)) (.int .i64 (r : Int)) (.int .i64 0) (.slice (some ⟨s, (u + PS + PT), none⟩) PU PU)
      clear hHeld z0 y0 z1 y1 z2 y2 z3 y3 z4 y4
      refine hold_gen (φ := fun v => Ms v g1 #[.int .i64 (p : Int), .int .i64 (r : Int), .int .i64 (r : Int), .int .i64 0, .slice (some ⟨s, (u + PS + PT), none⟩) PU PU] 82 ∧ Ms v g2 #[.int .i64 0, .int .i64 0, .int .i64 0, .int .i64 0, .slice none 0 0] 82 ∧ St L X b0 g s n (u + PS + PT + PU + PU) (max (max (max (max h (u + PS)) (u + PS + PT)) (u + PS + PT + PU)) (u + PS + PT + PU + PU)) (clM (clM (clM (clM m s u PS) s (u + PS) PT) s (u + PS + PT) PU) s (u + PS + PT + PU) PU) v ∧ Kq X g V5 v) ⟨E1, E2, st9, kq9⟩ ?_
      rintro vy ⟨E3, E4, st9, kq9⟩
      have z0 := E4.cell (i := 0) rfl
      have y0 := E4.f 0
      have z1 := E4.cell (i := 1) rfl
      have y1 := E4.f 1
      have z2 := E4.cell (i := 2) rfl
      have y2 := E4.f 2
      have z3 := E4.cell (i := 3) rfl
      have y3 := E4.f 3
      have z4 := E4.cell (i := 4) rfl
      have y4 := E4.f 4
      refine wpAnyH_ready (rs := [19]) (by kernel_rfl) (by simp) ?_
      refine AllReadyH.cons rfl (fun K hK => ?_) AllReadyH.nil
      go_simp
      refine hK.out _ _ ?_ (fun hHeld => ?_)
      · exact HK6.out _ (kq9.put5 hb2 _ _ _ _ _)
      clear hK K
      try simp only [List.setIfInBounds_toArray, List.set_cons_zero, List.set_cons_succ]
      refine wpAnyH_done (by kernel_rfl) ?_ _
      go_wp2_with fail
      go_meet
      exact ⟨g1, g2, rfl, rfl, hb1, hb2, hne, ms_past5 (x := (.int .i64 (p : Int))) (y := (.int .i64 (r : Int))) (z := (.int .i64 (r : Int))) (u := (.int .i64 0)) (v := (.slice (some ⟨s, (u + PS + PT + PU), none⟩) PU PU)) E3 hne, ms_put5 (x := (.int .i64 (p : Int))) (y := (.int .i64 (r : Int))) (z := (.int .i64 (r : Int))) (u := (.int .i64 0)) (v := (.slice (some ⟨s, (u + PS + PT + PU), none⟩) PU PU)) E4, st9.put5 (q := g2) (by have := HFR.out; omega) (fun S hS => by have := HFR.out.1 S hS; omega) (by have := HFR.out; omega) (fun S o hl => by have := HLT.out S o hl; omega) (.int .i64 (p : Int)) (.int .i64 (r : Int)) (.int .i64 (r : Int)) (.int .i64 0) (.slice (some ⟨s, (u + PS + PT + PU), none⟩) PU PU), kq9.put5 (q := g2) hb2 (.int .i64 (p : Int)) (.int .i64 (r : Int)) (.int .i64 (r : Int)) (.int .i64 0) (.slice (some ⟨s, (u + PS + PT + PU), none⟩) PU PU)⟩
  obtain ⟨gu, gp, rfl, rfl, g61, g62, g63, MU, MP, st6, kq6⟩ := hcut
  obtain ⟨V6, rfl⟩ : ∃ wo, wo = wc := ⟨_, rfl⟩
  have HKQ6 := Lib.hid kq6
  have HM6 : Hid (∀ W, Kq X g V6 W → Ms W w.heap.size #[.pointer (some ⟨g, 0, none⟩), .int .i64 (cut : Int)] 79 ∧ Ms W k21 #[.int .i64 (p : Int), .int .i64 (q : Int), .int .i64 (T2 : Int), .int .i64 (Q21 : Int), .slice (some ⟨S2, B2, none⟩) N2 cap2] 82 ∧ Ms W k22 #[.int .i64 (p : Int), .int .i64 (q : Int), .int .i64 (T2 : Int), .int .i64 (Q22 : Int), .slice (some ⟨S2, B2, none⟩) N2 cap2] 82 ∧ Ms W k23 #[.int .i64 (p : Int), .int .i64 (q : Int), .int .i64 (T2 : Int), .int .i64 (Q23 : Int), .slice (some ⟨S2, B2, none⟩) N2 cap2] 82 ∧ Ms W k24 #[.int .i64 (p : Int), .int .i64 (q : Int), .int .i64 (T2 : Int), .int .i64 (Q24 : Int), .slice (some ⟨S2, B2, none⟩) N2 cap2] 82 ∧ Ms W k31 #[.int .i64 (q : Int), .int .i64 (r : Int), .int .i64 (T3 : Int), .int .i64 (Q31 : Int), .slice (some ⟨S3, B3, none⟩) N3 cap3] 82 ∧ Ms W k32 #[.int .i64 (q : Int), .int .i64 (r : Int), .int .i64 (T3 : Int), .int .i64 (Q32 : Int), .slice (some ⟨S3, B3, none⟩) N3 cap3] 82 ∧ Ms W k33 #[.int .i64 (q : Int), .int .i64 (r : Int), .int .i64 (T3 : Int), .int .i64 (Q33 : Int), .slice (some ⟨S3, B3, none⟩) N3 cap3] 82 ∧ Ms W k34 #[.int .i64 (q : Int), .int .i64 (r : Int), .int .i64 (T3 : Int), .int .i64 (Q34 : Int), .slice (some ⟨S3, B3, none⟩) N3 cap3] 82 ∧ Ms W k11 #[.int .i64 (p : Int), .int .i64 (r : Int), .int .i64 (T1 : Int), .int .i64 (Q11 : Int), .slice (some ⟨S1, B1, none⟩) N1 cap1] 82 ∧ Ms W k12 #[.int .i64 (p : Int), .int .i64 (r : Int), .int .i64 (T1 : Int), .int .i64 (Q12 : Int), .slice (some ⟨S1, B1, none⟩) N1 cap1] 82 ∧ Ms W k13 #[.int .i64 (p : Int), .int .i64 (r : Int), .int .i64 (T1 : Int), .int .i64 (Q13 : Int), .slice (some ⟨S1, B1, none⟩) N1 cap1] 82 ∧ Ms W k14 #[.int .i64 (p : Int), .int .i64 (r : Int), .int .i64 (T1 : Int), .int .i64 (Q14 : Int), .slice (some ⟨S1, B1, none⟩) N1 cap1] 82 ∧ Ms W gs #[.int .i64 (p : Int), .int .i64 (q : Int), .int .i64 (q : Int), .int .i64 (0 : Int), .slice (some ⟨s, u, none⟩) PS PS] 82 ∧ Ms W gt #[.int .i64 (q : Int), .int .i64 (r : Int), .int .i64 (r : Int), .int .i64 (0 : Int), .slice (some ⟨s, (u + PS), none⟩) PT PT] 82 ∧ Ms W gu #[.int .i64 (p : Int), .int .i64 (r : Int), .int .i64 (r : Int), .int .i64 (0 : Int), .slice (some ⟨s, (u + PS + PT), none⟩) PU PU] 82 ∧ Ms W gp #[.int .i64 (p : Int), .int .i64 (r : Int), .int .i64 (r : Int), .int .i64 (0 : Int), .slice (some ⟨s, (u + PS + PT + PU), none⟩) PU PU] 82) := Lib.hid (fun W k => by
    have h0 := HM5.out W (HKQ6.out.trans k)
    exact ⟨h0.1, h0.2.1, h0.2.2.1, h0.2.2.2.1, h0.2.2.2.2.1, h0.2.2.2.2.2.1, h0.2.2.2.2.2.2.1, h0.2.2.2.2.2.2.2.1, h0.2.2.2.2.2.2.2.2.1, h0.2.2.2.2.2.2.2.2.2.1, h0.2.2.2.2.2.2.2.2.2.2.1, h0.2.2.2.2.2.2.2.2.2.2.2.1, h0.2.2.2.2.2.2.2.2.2.2.2.2.1, h0.2.2.2.2.2.2.2.2.2.2.2.2.2.1, h0.2.2.2.2.2.2.2.2.2.2.2.2.2.2, k.ms MU (fun hh => by have := HFR.out.1 _ hh; have := HWV.out; have := HG5.out; omega) (by have := HFR.out; have := HWV.out; have := HG5.out; omega), k.ms MP (fun hh => by have := HFR.out.1 _ hh; have := HWV.out; have := HG5.out; omega) (by have := HFR.out; have := HWV.out; have := HG5.out; omega)⟩)
  have HKW : Hid (Kq X g w V6) := Lib.hid (((HKW3.out).trans HKQ5.out).trans kq6)
  obtain ⟨Y, hY⟩ : ∃ Y, Y = regY (Prt.mk S2 B2 N2 cap2 O2 Ra Ca T2) (Prt.mk S3 B3 N3 cap3 O3 Rb Cb T3) (Prt.mk S1 B1 N1 cap1 O1 Rc Cc T1) s u p q r PS PT PU := ⟨_, rfl⟩
  have HR : Hid (Regs L X s u (u + PS + PT + PU + PU) p q r (Prt.mk S1 B1 N1 cap1 O1 Rc Cc T1) Y) := Lib.hid (by
    obtain ⟨i1, i2, i3⟩ := HIN.out
    obtain ⟨⟨e1, e2, e3, e4, e5, e6⟩, j1, j2, j3, j4, j5, -⟩ := HSZ.out
    obtain ⟨o1, o2, o3, o4, -⟩ := HPP.out
    obtain ⟨v1, v2, v3, v4, v5, v6, v7, v8⟩ := HGV.out
    rw [hY]
    exact regs_of i2 i3 i1 ⟨e1, e2⟩ ⟨e3, e4⟩ ⟨e5, e6⟩ j1 j2 j3 o1 o2 o3 j4 j5 v3 v4 v5 v6 v7 v2 (by omega))
  have HV : Hid ((Y 0).val = .agg #[.int .i64 (p : Int), .int .i64 (q : Int), .int .i64 (T2 : Int), .int .i64 (Q21 : Int), .slice (some ⟨S2, B2, none⟩) N2 cap2] ∧ (Y 1).val = .agg #[.int .i64 (p : Int), .int .i64 (q : Int), .int .i64 (T2 : Int), .int .i64 (Q22 : Int), .slice (some ⟨S2, B2, none⟩) N2 cap2] ∧ (Y 2).val = .agg #[.int .i64 (p : Int), .int .i64 (q : Int), .int .i64 (T2 : Int), .int .i64 (Q23 : Int), .slice (some ⟨S2, B2, none⟩) N2 cap2] ∧ (Y 3).val = .agg #[.int .i64 (p : Int), .int .i64 (q : Int), .int .i64 (T2 : Int), .int .i64 (Q24 : Int), .slice (some ⟨S2, B2, none⟩) N2 cap2] ∧ (Y 4).val = .agg #[.int .i64 (q : Int), .int .i64 (r : Int), .int .i64 (T3 : Int), .int .i64 (Q31 : Int), .slice (some ⟨S3, B3, none⟩) N3 cap3] ∧ (Y 5).val = .agg #[.int .i64 (q : Int), .int .i64 (r : Int), .int .i64 (T3 : Int), .int .i64 (Q32 : Int), .slice (some ⟨S3, B3, none⟩) N3 cap3] ∧ (Y 6).val = .agg #[.int .i64 (q : Int), .int .i64 (r : Int), .int .i64 (T3 : Int), .int .i64 (Q33 : Int), .slice (some ⟨S3, B3, none⟩) N3 cap3] ∧ (Y 7).val = .agg #[.int .i64 (q : Int), .int .i64 (r : Int), .int .i64 (T3 : Int), .int .i64 (Q34 : Int), .slice (some ⟨S3, B3, none⟩) N3 cap3] ∧ (Y 8).val = .agg #[.int .i64 (p : Int), .int .i64 (r : Int), .int .i64 (T1 : Int), .int .i64 (Q11 : Int), .slice (some ⟨S1, B1, none⟩) N1 cap1] ∧ (Y 9).val = .agg #[.int .i64 (p : Int), .int .i64 (r : Int), .int .i64 (T1 : Int), .int .i64 (Q12 : Int), .slice (some ⟨S1, B1, none⟩) N1 cap1] ∧ (Y 10).val = .agg #[.int .i64 (p : Int), .int .i64 (r : Int), .int .i64 (T1 : Int), .int .i64 (Q13 : Int), .slice (some ⟨S1, B1, none⟩) N1 cap1] ∧ (Y 11).val = .agg #[.int .i64 (p : Int), .int .i64 (r : Int), .int .i64 (T1 : Int), .int .i64 (Q14 : Int), .slice (some ⟨S1, B1, none⟩) N1 cap1] ∧ (Y 12).val = .agg #[.int .i64 (p : Int), .int .i64 (q : Int), .int .i64 (q : Int), .int .i64 (0 : Int), .slice (some ⟨s, u, none⟩) PS PS] ∧ (Y 13).val = .agg #[.int .i64 (q : Int), .int .i64 (r : Int), .int .i64 (r : Int), .int .i64 (0 : Int), .slice (some ⟨s, (u + PS), none⟩) PT PT] ∧ (Y 14).val = .agg #[.int .i64 (p : Int), .int .i64 (r : Int), .int .i64 (r : Int), .int .i64 (0 : Int), .slice (some ⟨s, (u + PS + PT), none⟩) PU PU] ∧ (Y 15).val = .agg #[.int .i64 (p : Int), .int .i64 (r : Int), .int .i64 (r : Int), .int .i64 (0 : Int), .slice (some ⟨s, (u + PS + PT + PU), none⟩) PU PU]) := Lib.hid (by
    have x1 := HE1.out
    have x2 := HE2.out
    have x3 := HE3.out
    rw [hY]
    refine ⟨?_, ?_, ?_, ?_, ?_, ?_, ?_, ?_, ?_, ?_, ?_, ?_, ?_, ?_, ?_, ?_⟩
    · rw [x2.1]; rfl
    · rw [x2.2.1]; rfl
    · rw [x2.2.2.1]; rfl
    · rw [x2.2.2.2]; rfl
    · rw [x3.1]; rfl
    · rw [x3.2.1]; rfl
    · rw [x3.2.2.1]; rfl
    · rw [x3.2.2.2]; rfl
    · rw [x1.1]; rfl
    · rw [x1.2.1]; rfl
    · rw [x1.2.2.1]; rfl
    · rw [x1.2.2.2]; rfl
    · rfl
    · rfl
    · rfl
    · rfl)
  obtain ⟨SG, hSG⟩ : ∃ S, S = sgR (sevN cut p q r) p q r ((Prt.mk S2 B2 N2 cap2 O2 Ra Ca T2).get m) ((Prt.mk S3 B3 N3 cap3 O3 Rb Cb T3).get m) (fun x => (Y x).get (clM (clM (clM (clM m s u PS) s (u + PS) PT) s (u + PS + PT) PU) s (u + PS + PT + PU) PU)) := ⟨_, rfl⟩
  have HSG : Hid (∀ k, SG (k + 1) = stR (sevN cut p q r) (SG k) k) := Lib.hid (fun k => by rw [hSG]; rfl)
  obtain ⟨BAD, hBAD⟩ : ∃ B, B = (∃ x, 1 ≤ x ∧ x ≤ 7 ∧ Bad p r (pr (sevN cut p q r) p q r ((Prt.mk S2 B2 N2 cap2 O2 Ra Ca T2).get m) ((Prt.mk S3 B3 N3 cap3 O3 Rb Cb T3).get m) x)) := ⟨_, rfl⟩
  have HBD : Hid ((Bad p r (sevN cut p q r (SG 2 12) (SG 2 13)) → BAD) ∧ (Bad p r (sevN cut p q r (SG 5 12) (SG 5 13)) → BAD) ∧ (Bad p r (sevN cut p q r (SG 6 0) (SG 6 4)) → BAD) ∧ (Bad p r (sevN cut p q r (SG 8 1) (SG 8 6)) → BAD) ∧ (Bad p r (sevN cut p q r (SG 12 12) (SG 12 7)) → BAD) ∧ (Bad p r (sevN cut p q r (SG 15 3) (SG 15 13)) → BAD) ∧ (Bad p r (sevN cut p q r (SG 18 12) (SG 18 13)) → BAD)) := Lib.hid (by
    obtain ⟨b1, b2, b3, b4, b5, b6, b7⟩ := sg_pr (rec := sevN cut p q r) (p := p) (q := q) (r := r) (f := (Prt.mk S2 B2 N2 cap2 O2 Ra Ca T2).get m) (g := (Prt.mk S3 B3 N3 cap3 O3 Rb Cb T3).get m) (z := fun x => (Y x).get (clM (clM (clM (clM m s u PS) s (u + PS) PT) s (u + PS + PT) PU) s (u + PS + PT + PU) PU))
    rw [hSG, hBAD]
    exact ⟨fun h => ⟨5, by omega, by omega, by rw [← b1]; exact h⟩, fun h => ⟨6, by omega, by omega, by rw [← b2]; exact h⟩, fun h => ⟨1, by omega, by omega, by rw [← b3]; exact h⟩, fun h => ⟨2, by omega, by omega, by rw [← b4]; exact h⟩, fun h => ⟨3, by omega, by omega, by rw [← b5]; exact h⟩, fun h => ⟨4, by omega, by omega, by rw [← b6]; exact h⟩, fun h => ⟨7, by omega, by omega, by rw [← b7]; exact h⟩⟩)
  have HBE := Lib.hid hBAD
  have HSE := Lib.hid hSG
  have HYE := Lib.hid hY
  have HNT : Hid ((u + PS + PT + PU + PU) + needN p q r cut ≤ n ∧ (u + PS + PT + PU + PU) + needN p q r cut ≤ (u + (p * q + q * r + 2 * p * r) + needN p q r cut)) := Lib.hid (by
    obtain ⟨o1, o2, o3, o4, -⟩ := HPP.out
    have o5 := HGV.out.2.2.2.2.2.2.2
    have e2 : 2 * p * r = 2 * PU := by rw [Nat.mul_assoc, o3]
    rw [o1, o2, e2] at o5 ⊢
    omega)
  have zt : Zt L X b0 g s n u (u + PS + PT + PU + PU) (u + (p * q + q * r + 2 * p * r) + needN p q r cut) (Prt.mk S1 B1 N1 cap1 O1 Rc Cc T1) Y m h V6 BAD true (SG 0) V6 := by
    obtain ⟨⟨e1, e2, e3, e4, e5, e6⟩, j1, j2, j3, j4, j5, -⟩ := HSZ.out
    obtain ⟨v1, v2, v3, v4, v5, v6, v7, v8⟩ := HGV.out
    have hnt := HNT.out
    have hm6 : ∀ S o, ¬ (S = s ∧ u ≤ o) → clM (clM (clM (clM m s u PS) s (u + PS) PT) s (u + PS + PT) PU) s (u + PS + PT + PU) PU S o = m S o := fun S o hh => by
      rw [clM_else hh (by omega), clM_else hh (by omega), clM_else hh (by omega), clM_else hh (Nat.le_refl _)]
    refine ⟨SG 0, ⟨⟨_, _, st6, ?_, fun S o _ hh => hm6 S o hh, by omega, by omega⟩, Kq.refl _ _ _⟩, fun _ => rfl, (fun h => by cases h)⟩
    rw [hSG, hY]
    exact env0 ⟨e1, e2⟩ ⟨e3, e4⟩ v5 v6 hm6
  have HP : Hid ((0 < p ∧ 0 < q) ∧ (0 < q ∧ 0 < r) ∧ (0 < p ∧ 0 < r)) := Lib.hid ⟨⟨HSZ.out.2.1, HSZ.out.2.2.1⟩, ⟨HSZ.out.2.2.1, HSZ.out.2.2.2.1⟩, ⟨HSZ.out.2.1, HSZ.out.2.2.2.1⟩⟩
  have HMS := Lib.hid HGV.out.1
  have HXS := Lib.hid HSZ.out.2.2.2.2.2.1
  clear hSG hBAD hY HM5 HK6 HT3 HT4 MU MP st6 kq6 g61 g62 g63 hst5 HST5 HKQ5 HQQ1 HQQ2 HQQ3 HE1 HE2 HE3 HF1 HF2 HF3 HG5 HS0 HSV HWV HFR HLT HIN HPP HGV HKQ6 HKW3
  have KB := HM6.out _ zt.kq
  have c2_0 := KB.2.2.2.1.cell (i := 0) rfl
  have c2_1 := KB.2.2.2.1.cell (i := 1) rfl
  have c2_2 := KB.2.2.2.1.cell (i := 2) rfl
  have c2_3 := KB.2.2.2.1.cell (i := 3) rfl
  have c2_4 := KB.2.2.2.1.cell (i := 4) rfl
  have c3_0 := KB.2.2.2.2.1.cell (i := 0) rfl
  have c3_1 := KB.2.2.2.2.1.cell (i := 1) rfl
  have c3_2 := KB.2.2.2.2.1.cell (i := 2) rfl
  have c3_3 := KB.2.2.2.2.1.cell (i := 3) rfl
  have c3_4 := KB.2.2.2.2.1.cell (i := 4) rfl
  have c12_0 := KB.2.2.2.2.2.2.2.2.2.2.2.2.2.1.cell (i := 0) rfl
  have c12_1 := KB.2.2.2.2.2.2.2.2.2.2.2.2.2.1.cell (i := 1) rfl
  have c12_2 := KB.2.2.2.2.2.2.2.2.2.2.2.2.2.1.cell (i := 2) rfl
  have c12_3 := KB.2.2.2.2.2.2.2.2.2.2.2.2.2.1.cell (i := 3) rfl
  have c12_4 := KB.2.2.2.2.2.2.2.2.2.2.2.2.2.1.cell (i := 4) rfl
  clear KB
  go_wp2_with fail
  refine (zt_add HR.out zt 12 2 3 (by omega) (by omega) (by omega) HR.out.rs (HR.out.ra 2 (by omega)) (HR.out.ra 3 (by omega)) HP.out.1 HV.out.2.2.2.2.2.2.2.2.2.2.2.2.1 HV.out.2.2.1 HV.out.2.2.2.1 (HSG.out 0)).mono ?_
  rintro e wq ⟨rfl, zz⟩
  clear zt c2_0 c2_1 c2_2 c2_3 c2_4 c3_0 c3_1 c3_2 c3_3 c3_4 c12_0 c12_1 c12_2 c12_3 c12_4
  have zt := zz
  clear zz
  have KB := HM6.out _ zt.kq
  have c4_0 := KB.2.2.2.2.2.1.cell (i := 0) rfl
  have c4_1 := KB.2.2.2.2.2.1.cell (i := 1) rfl
  have c4_2 := KB.2.2.2.2.2.1.cell (i := 2) rfl
  have c4_3 := KB.2.2.2.2.2.1.cell (i := 3) rfl
  have c4_4 := KB.2.2.2.2.2.1.cell (i := 4) rfl
  have c5_0 := KB.2.2.2.2.2.2.1.cell (i := 0) rfl
  have c5_1 := KB.2.2.2.2.2.2.1.cell (i := 1) rfl
  have c5_2 := KB.2.2.2.2.2.2.1.cell (i := 2) rfl
  have c5_3 := KB.2.2.2.2.2.2.1.cell (i := 3) rfl
  have c5_4 := KB.2.2.2.2.2.2.1.cell (i := 4) rfl
  have c13_0 := KB.2.2.2.2.2.2.2.2.2.2.2.2.2.2.1.cell (i := 0) rfl
  have c13_1 := KB.2.2.2.2.2.2.2.2.2.2.2.2.2.2.1.cell (i := 1) rfl
  have c13_2 := KB.2.2.2.2.2.2.2.2.2.2.2.2.2.2.1.cell (i := 2) rfl
  have c13_3 := KB.2.2.2.2.2.2.2.2.2.2.2.2.2.2.1.cell (i := 3) rfl
  have c13_4 := KB.2.2.2.2.2.2.2.2.2.2.2.2.2.2.1.cell (i := 4) rfl
  clear KB
  go_wp2_with fail
  refine (zt_sub HR.out zt 13 5 4 (by omega) (by omega) (by omega) HR.out.rt (HR.out.rb 5 (by omega) (by omega)) (HR.out.rb 4 (by omega) (by omega)) HP.out.2.1 HV.out.2.2.2.2.2.2.2.2.2.2.2.2.2.1 HV.out.2.2.2.2.2.1 HV.out.2.2.2.2.1 (HSG.out 1)).mono ?_
  rintro e wq ⟨rfl, zz⟩
  clear zt c4_0 c4_1 c4_2 c4_3 c4_4 c5_0 c5_1 c5_2 c5_3 c5_4 c13_0 c13_1 c13_2 c13_3 c13_4
  have zt := zz
  clear zz
  have KB := HM6.out _ zt.kq
  have l0 := KB.1.cell (i := 0) rfl
  have l1 := KB.1.cell (i := 1) rfl
  have c11_0 := KB.2.2.2.2.2.2.2.2.2.2.2.2.1.cell (i := 0) rfl
  have c11_1 := KB.2.2.2.2.2.2.2.2.2.2.2.2.1.cell (i := 1) rfl
  have c11_2 := KB.2.2.2.2.2.2.2.2.2.2.2.2.1.cell (i := 2) rfl
  have c11_3 := KB.2.2.2.2.2.2.2.2.2.2.2.2.1.cell (i := 3) rfl
  have c11_4 := KB.2.2.2.2.2.2.2.2.2.2.2.2.1.cell (i := 4) rfl
  have c12_0 := KB.2.2.2.2.2.2.2.2.2.2.2.2.2.1.cell (i := 0) rfl
  have c12_1 := KB.2.2.2.2.2.2.2.2.2.2.2.2.2.1.cell (i := 1) rfl
  have c12_2 := KB.2.2.2.2.2.2.2.2.2.2.2.2.2.1.cell (i := 2) rfl
  have c12_3 := KB.2.2.2.2.2.2.2.2.2.2.2.2.2.1.cell (i := 3) rfl
  have c12_4 := KB.2.2.2.2.2.2.2.2.2.2.2.2.2.1.cell (i := 4) rfl
  have c13_0 := KB.2.2.2.2.2.2.2.2.2.2.2.2.2.2.1.cell (i := 0) rfl
  have c13_1 := KB.2.2.2.2.2.2.2.2.2.2.2.2.2.2.1.cell (i := 1) rfl
  have c13_2 := KB.2.2.2.2.2.2.2.2.2.2.2.2.2.2.1.cell (i := 2) rfl
  have c13_3 := KB.2.2.2.2.2.2.2.2.2.2.2.2.2.2.1.cell (i := 3) rfl
  have c13_4 := KB.2.2.2.2.2.2.2.2.2.2.2.2.2.2.1.cell (i := 4) rfl
  clear KB
  go_wp2_with fail
  refine (zt_mul HR.out HMS.out HNT.out.1 HNT.out.2 zt 11 12 13 (by omega) (by omega) (by omega) (by omega) (by omega) (HR.out.rc 11 (by omega) (by omega)) HR.out.rs HR.out.rt HV.out.2.2.2.2.2.2.2.2.2.2.2.1 HV.out.2.2.2.2.2.2.2.2.2.2.2.2.1 HV.out.2.2.2.2.2.2.2.2.2.2.2.2.2.1 (HSG.out 2) HBD.out.1).mono ?_
  rintro e wq ⟨ok, rfl, zz⟩
  clear zt l0 l1 c11_0 c11_1 c11_2 c11_3 c11_4 c12_0 c12_1 c12_2 c12_3 c12_4 c13_0 c13_1 c13_2 c13_3 c13_4
  have zt := zz
  clear zz
  have KB := HM6.out _ zt.kq
  have c0_0 := KB.2.1.cell (i := 0) rfl
  have c0_1 := KB.2.1.cell (i := 1) rfl
  have c0_2 := KB.2.1.cell (i := 2) rfl
  have c0_3 := KB.2.1.cell (i := 3) rfl
  have c0_4 := KB.2.1.cell (i := 4) rfl
  have c12_0 := KB.2.2.2.2.2.2.2.2.2.2.2.2.2.1.cell (i := 0) rfl
  have c12_1 := KB.2.2.2.2.2.2.2.2.2.2.2.2.2.1.cell (i := 1) rfl
  have c12_2 := KB.2.2.2.2.2.2.2.2.2.2.2.2.2.1.cell (i := 2) rfl
  have c12_3 := KB.2.2.2.2.2.2.2.2.2.2.2.2.2.1.cell (i := 3) rfl
  have c12_4 := KB.2.2.2.2.2.2.2.2.2.2.2.2.2.1.cell (i := 4) rfl
  clear KB
  go_wp2_with fail
  refine (zt_sub HR.out zt 12 12 0 (by omega) (by omega) (by omega) HR.out.rs HR.out.rs (HR.out.ra 0 (by omega)) HP.out.1 HV.out.2.2.2.2.2.2.2.2.2.2.2.2.1 HV.out.2.2.2.2.2.2.2.2.2.2.2.2.1 HV.out.1 (HSG.out 3)).mono ?_
  rintro e wq ⟨rfl, zz⟩
  clear zt c0_0 c0_1 c0_2 c0_3 c0_4 c12_0 c12_1 c12_2 c12_3 c12_4
  have zt := zz
  clear zz
  have KB := HM6.out _ zt.kq
  have c7_0 := KB.2.2.2.2.2.2.2.2.1.cell (i := 0) rfl
  have c7_1 := KB.2.2.2.2.2.2.2.2.1.cell (i := 1) rfl
  have c7_2 := KB.2.2.2.2.2.2.2.2.1.cell (i := 2) rfl
  have c7_3 := KB.2.2.2.2.2.2.2.2.1.cell (i := 3) rfl
  have c7_4 := KB.2.2.2.2.2.2.2.2.1.cell (i := 4) rfl
  have c13_0 := KB.2.2.2.2.2.2.2.2.2.2.2.2.2.2.1.cell (i := 0) rfl
  have c13_1 := KB.2.2.2.2.2.2.2.2.2.2.2.2.2.2.1.cell (i := 1) rfl
  have c13_2 := KB.2.2.2.2.2.2.2.2.2.2.2.2.2.2.1.cell (i := 2) rfl
  have c13_3 := KB.2.2.2.2.2.2.2.2.2.2.2.2.2.2.1.cell (i := 3) rfl
  have c13_4 := KB.2.2.2.2.2.2.2.2.2.2.2.2.2.2.1.cell (i := 4) rfl
  clear KB
  go_wp2_with fail
  refine (zt_sub HR.out zt 13 7 13 (by omega) (by omega) (by omega) HR.out.rt (HR.out.rb 7 (by omega) (by omega)) HR.out.rt HP.out.2.1 HV.out.2.2.2.2.2.2.2.2.2.2.2.2.2.1 HV.out.2.2.2.2.2.2.2.1 HV.out.2.2.2.2.2.2.2.2.2.2.2.2.2.1 (HSG.out 4)).mono ?_
  rintro e wq ⟨rfl, zz⟩
  clear zt c7_0 c7_1 c7_2 c7_3 c7_4 c13_0 c13_1 c13_2 c13_3 c13_4
  have zt := zz
  clear zz
  go_upto_region 12 with (fail)
  go_cut [26] from 104 to 118 (fun x wx => ∃ ok' : Bool, x = .bool ok' ∧ Zt L X b0 g s n u (u + PS + PT + PU + PU) (u + (p * q + q * r + 2 * p * r) + needN p q r cut) (Prt.mk S1 B1 N1 cap1 O1 Rc Cc T1) Y m h V6 BAD ok' (SG 7) wx)
  case first =>
    as_aux_lemma =>
    cases ok
    · go_wp2_with fail
      go_meet
      exact ⟨false, rfl, zt.off _⟩
    · skip
      have KB := HM6.out _ zt.kq
      have l0 := KB.1.cell (i := 0) rfl
      have l1 := KB.1.cell (i := 1) rfl
      have c9_0 := KB.2.2.2.2.2.2.2.2.2.2.1.cell (i := 0) rfl
      have c9_1 := KB.2.2.2.2.2.2.2.2.2.2.1.cell (i := 1) rfl
      have c9_2 := KB.2.2.2.2.2.2.2.2.2.2.1.cell (i := 2) rfl
      have c9_3 := KB.2.2.2.2.2.2.2.2.2.2.1.cell (i := 3) rfl
      have c9_4 := KB.2.2.2.2.2.2.2.2.2.2.1.cell (i := 4) rfl
      have c12_0 := KB.2.2.2.2.2.2.2.2.2.2.2.2.2.1.cell (i := 0) rfl
      have c12_1 := KB.2.2.2.2.2.2.2.2.2.2.2.2.2.1.cell (i := 1) rfl
      have c12_2 := KB.2.2.2.2.2.2.2.2.2.2.2.2.2.1.cell (i := 2) rfl
      have c12_3 := KB.2.2.2.2.2.2.2.2.2.2.2.2.2.1.cell (i := 3) rfl
      have c12_4 := KB.2.2.2.2.2.2.2.2.2.2.2.2.2.1.cell (i := 4) rfl
      have c13_0 := KB.2.2.2.2.2.2.2.2.2.2.2.2.2.2.1.cell (i := 0) rfl
      have c13_1 := KB.2.2.2.2.2.2.2.2.2.2.2.2.2.2.1.cell (i := 1) rfl
      have c13_2 := KB.2.2.2.2.2.2.2.2.2.2.2.2.2.2.1.cell (i := 2) rfl
      have c13_3 := KB.2.2.2.2.2.2.2.2.2.2.2.2.2.2.1.cell (i := 3) rfl
      have c13_4 := KB.2.2.2.2.2.2.2.2.2.2.2.2.2.2.1.cell (i := 4) rfl
      clear KB
      go_wp2_with fail
      refine (zt_mul HR.out HMS.out HNT.out.1 HNT.out.2 zt 9 12 13 (by omega) (by omega) (by omega) (by omega) (by omega) (HR.out.rc 9 (by omega) (by omega)) HR.out.rs HR.out.rt HV.out.2.2.2.2.2.2.2.2.2.1 HV.out.2.2.2.2.2.2.2.2.2.2.2.2.1 HV.out.2.2.2.2.2.2.2.2.2.2.2.2.2.1 (HSG.out 5) HBD.out.2.1).mono ?_
      rintro e wq ⟨ok2, rfl, zz⟩
      clear zt l0 l1 c9_0 c9_1 c9_2 c9_3 c9_4 c12_0 c12_1 c12_2 c12_3 c12_4 c13_0 c13_1 c13_2 c13_3 c13_4
      have zt := zz
      clear zz
      cases ok2
      · go_wp2_with fail
        go_meet
        exact ⟨false, rfl, zt.off _⟩
      · skip
        have KB := HM6.out _ zt.kq
        have l0 := KB.1.cell (i := 0) rfl
        have l1 := KB.1.cell (i := 1) rfl
        have c0_0 := KB.2.1.cell (i := 0) rfl
        have c0_1 := KB.2.1.cell (i := 1) rfl
        have c0_2 := KB.2.1.cell (i := 2) rfl
        have c0_3 := KB.2.1.cell (i := 3) rfl
        have c0_4 := KB.2.1.cell (i := 4) rfl
        have c4_0 := KB.2.2.2.2.2.1.cell (i := 0) rfl
        have c4_1 := KB.2.2.2.2.2.1.cell (i := 1) rfl
        have c4_2 := KB.2.2.2.2.2.1.cell (i := 2) rfl
        have c4_3 := KB.2.2.2.2.2.1.cell (i := 3) rfl
        have c4_4 := KB.2.2.2.2.2.1.cell (i := 4) rfl
        have c8_0 := KB.2.2.2.2.2.2.2.2.2.1.cell (i := 0) rfl
        have c8_1 := KB.2.2.2.2.2.2.2.2.2.1.cell (i := 1) rfl
        have c8_2 := KB.2.2.2.2.2.2.2.2.2.1.cell (i := 2) rfl
        have c8_3 := KB.2.2.2.2.2.2.2.2.2.1.cell (i := 3) rfl
        have c8_4 := KB.2.2.2.2.2.2.2.2.2.1.cell (i := 4) rfl
        clear KB
        go_wp2_with fail
        refine (zt_mul HR.out HMS.out HNT.out.1 HNT.out.2 zt 8 0 4 (by omega) (by omega) (by omega) (by omega) (by omega) (HR.out.rc 8 (by omega) (by omega)) (HR.out.ra 0 (by omega)) (HR.out.rb 4 (by omega) (by omega)) HV.out.2.2.2.2.2.2.2.2.1 HV.out.1 HV.out.2.2.2.2.1 (HSG.out 6) HBD.out.2.2.1).mono ?_
        rintro e wq ⟨ok2, rfl, zz⟩
        clear zt l0 l1 c0_0 c0_1 c0_2 c0_3 c0_4 c4_0 c4_1 c4_2 c4_3 c4_4 c8_0 c8_1 c8_2 c8_3 c8_4
        have zt := zz
        clear zz
        go_wp2_with fail
        go_meet
        exact ⟨ok2, rfl, zt⟩
  clear zt
  obtain ⟨ok12, rfl, zt⟩ := hcut
  obtain ⟨wd, rfl⟩ : ∃ wo, wo = wc := ⟨_, rfl⟩
  have KB := HM6.out _ zt.kq
  have c8_0 := KB.2.2.2.2.2.2.2.2.2.1.cell (i := 0) rfl
  have c8_1 := KB.2.2.2.2.2.2.2.2.2.1.cell (i := 1) rfl
  have c8_2 := KB.2.2.2.2.2.2.2.2.2.1.cell (i := 2) rfl
  have c8_3 := KB.2.2.2.2.2.2.2.2.2.1.cell (i := 3) rfl
  have c8_4 := KB.2.2.2.2.2.2.2.2.2.1.cell (i := 4) rfl
  have c9_0 := KB.2.2.2.2.2.2.2.2.2.2.1.cell (i := 0) rfl
  have c9_1 := KB.2.2.2.2.2.2.2.2.2.2.1.cell (i := 1) rfl
  have c9_2 := KB.2.2.2.2.2.2.2.2.2.2.1.cell (i := 2) rfl
  have c9_3 := KB.2.2.2.2.2.2.2.2.2.2.1.cell (i := 3) rfl
  have c9_4 := KB.2.2.2.2.2.2.2.2.2.2.1.cell (i := 4) rfl
  have c14_0 := KB.2.2.2.2.2.2.2.2.2.2.2.2.2.2.2.1.cell (i := 0) rfl
  have c14_1 := KB.2.2.2.2.2.2.2.2.2.2.2.2.2.2.2.1.cell (i := 1) rfl
  have c14_2 := KB.2.2.2.2.2.2.2.2.2.2.2.2.2.2.2.1.cell (i := 2) rfl
  have c14_3 := KB.2.2.2.2.2.2.2.2.2.2.2.2.2.2.2.1.cell (i := 3) rfl
  have c14_4 := KB.2.2.2.2.2.2.2.2.2.2.2.2.2.2.2.1.cell (i := 4) rfl
  clear KB
  go_wp2_with fail
  refine (zt_add HR.out zt 14 8 9 (by omega) (by omega) (by omega) HR.out.ru (HR.out.rc 8 (by omega) (by omega)) (HR.out.rc 9 (by omega) (by omega)) HP.out.2.2 HV.out.2.2.2.2.2.2.2.2.2.2.2.2.2.2.1 HV.out.2.2.2.2.2.2.2.2.1 HV.out.2.2.2.2.2.2.2.2.2.1 (HSG.out 7)).mono ?_
  rintro e wq ⟨rfl, zz⟩
  clear zt c8_0 c8_1 c8_2 c8_3 c8_4 c9_0 c9_1 c9_2 c9_3 c9_4 c14_0 c14_1 c14_2 c14_3 c14_4
  have zt := zz
  clear zz
  go_upto_region 14 with (fail)
  go_cut [26] from 123 to 130 (fun x wx => ∃ ok' : Bool, x = .bool ok' ∧ Zt L X b0 g s n u (u + PS + PT + PU + PU) (u + (p * q + q * r + 2 * p * r) + needN p q r cut) (Prt.mk S1 B1 N1 cap1 O1 Rc Cc T1) Y m h V6 BAD ok' (SG 9) wx)
  case first =>
    as_aux_lemma =>
    cases ok12
    · go_wp2_with fail
      go_meet
      exact ⟨false, rfl, zt.off _⟩
    · skip
      have KB := HM6.out _ zt.kq
      have l0 := KB.1.cell (i := 0) rfl
      have l1 := KB.1.cell (i := 1) rfl
      have c1_0 := KB.2.2.1.cell (i := 0) rfl
      have c1_1 := KB.2.2.1.cell (i := 1) rfl
      have c1_2 := KB.2.2.1.cell (i := 2) rfl
      have c1_3 := KB.2.2.1.cell (i := 3) rfl
      have c1_4 := KB.2.2.1.cell (i := 4) rfl
      have c6_0 := KB.2.2.2.2.2.2.2.1.cell (i := 0) rfl
      have c6_1 := KB.2.2.2.2.2.2.2.1.cell (i := 1) rfl
      have c6_2 := KB.2.2.2.2.2.2.2.1.cell (i := 2) rfl
      have c6_3 := KB.2.2.2.2.2.2.2.1.cell (i := 3) rfl
      have c6_4 := KB.2.2.2.2.2.2.2.1.cell (i := 4) rfl
      have c15_0 := KB.2.2.2.2.2.2.2.2.2.2.2.2.2.2.2.2.cell (i := 0) rfl
      have c15_1 := KB.2.2.2.2.2.2.2.2.2.2.2.2.2.2.2.2.cell (i := 1) rfl
      have c15_2 := KB.2.2.2.2.2.2.2.2.2.2.2.2.2.2.2.2.cell (i := 2) rfl
      have c15_3 := KB.2.2.2.2.2.2.2.2.2.2.2.2.2.2.2.2.cell (i := 3) rfl
      have c15_4 := KB.2.2.2.2.2.2.2.2.2.2.2.2.2.2.2.2.cell (i := 4) rfl
      clear KB
      go_wp2_with fail
      refine (zt_mul HR.out HMS.out HNT.out.1 HNT.out.2 zt 15 1 6 (by omega) (by omega) (by omega) (by omega) (by omega) HR.out.rp (HR.out.ra 1 (by omega)) (HR.out.rb 6 (by omega) (by omega)) HV.out.2.2.2.2.2.2.2.2.2.2.2.2.2.2.2 HV.out.2.1 HV.out.2.2.2.2.2.2.1 (HSG.out 8) HBD.out.2.2.2.1).mono ?_
      rintro e wq ⟨ok2, rfl, zz⟩
      clear zt l0 l1 c1_0 c1_1 c1_2 c1_3 c1_4 c6_0 c6_1 c6_2 c6_3 c6_4 c15_0 c15_1 c15_2 c15_3 c15_4
      have zt := zz
      clear zz
      go_wp2_with fail
      go_meet
      exact ⟨ok2, rfl, zt⟩
  clear zt
  obtain ⟨ok14, rfl, zt⟩ := hcut
  obtain ⟨wd, rfl⟩ : ∃ wo, wo = wc := ⟨_, rfl⟩
  have KB := HM6.out _ zt.kq
  have c8_0 := KB.2.2.2.2.2.2.2.2.2.1.cell (i := 0) rfl
  have c8_1 := KB.2.2.2.2.2.2.2.2.2.1.cell (i := 1) rfl
  have c8_2 := KB.2.2.2.2.2.2.2.2.2.1.cell (i := 2) rfl
  have c8_3 := KB.2.2.2.2.2.2.2.2.2.1.cell (i := 3) rfl
  have c8_4 := KB.2.2.2.2.2.2.2.2.2.1.cell (i := 4) rfl
  have c15_0 := KB.2.2.2.2.2.2.2.2.2.2.2.2.2.2.2.2.cell (i := 0) rfl
  have c15_1 := KB.2.2.2.2.2.2.2.2.2.2.2.2.2.2.2.2.cell (i := 1) rfl
  have c15_2 := KB.2.2.2.2.2.2.2.2.2.2.2.2.2.2.2.2.cell (i := 2) rfl
  have c15_3 := KB.2.2.2.2.2.2.2.2.2.2.2.2.2.2.2.2.cell (i := 3) rfl
  have c15_4 := KB.2.2.2.2.2.2.2.2.2.2.2.2.2.2.2.2.cell (i := 4) rfl
  clear KB
  go_wp2_with fail
  refine (zt_add HR.out zt 8 8 15 (by omega) (by omega) (by omega) (HR.out.rc 8 (by omega) (by omega)) (HR.out.rc 8 (by omega) (by omega)) HR.out.rp HP.out.2.2 HV.out.2.2.2.2.2.2.2.2.1 HV.out.2.2.2.2.2.2.2.2.1 HV.out.2.2.2.2.2.2.2.2.2.2.2.2.2.2.2 (HSG.out 9)).mono ?_
  rintro e wq ⟨rfl, zz⟩
  clear zt c8_0 c8_1 c8_2 c8_3 c8_4 c15_0 c15_1 c15_2 c15_3 c15_4
  have zt := zz
  clear zz
  have KB := HM6.out _ zt.kq
  have c1_0 := KB.2.2.1.cell (i := 0) rfl
  have c1_1 := KB.2.2.1.cell (i := 1) rfl
  have c1_2 := KB.2.2.1.cell (i := 2) rfl
  have c1_3 := KB.2.2.1.cell (i := 3) rfl
  have c1_4 := KB.2.2.1.cell (i := 4) rfl
  have c12_0 := KB.2.2.2.2.2.2.2.2.2.2.2.2.2.1.cell (i := 0) rfl
  have c12_1 := KB.2.2.2.2.2.2.2.2.2.2.2.2.2.1.cell (i := 1) rfl
  have c12_2 := KB.2.2.2.2.2.2.2.2.2.2.2.2.2.1.cell (i := 2) rfl
  have c12_3 := KB.2.2.2.2.2.2.2.2.2.2.2.2.2.1.cell (i := 3) rfl
  have c12_4 := KB.2.2.2.2.2.2.2.2.2.2.2.2.2.1.cell (i := 4) rfl
  clear KB
  go_wp2_with fail
  refine (zt_sub HR.out zt 12 1 12 (by omega) (by omega) (by omega) HR.out.rs (HR.out.ra 1 (by omega)) HR.out.rs HP.out.1 HV.out.2.2.2.2.2.2.2.2.2.2.2.2.1 HV.out.2.1 HV.out.2.2.2.2.2.2.2.2.2.2.2.2.1 (HSG.out 10)).mono ?_
  rintro e wq ⟨rfl, zz⟩
  clear zt c1_0 c1_1 c1_2 c1_3 c1_4 c12_0 c12_1 c12_2 c12_3 c12_4
  have zt := zz
  clear zz
  have KB := HM6.out _ zt.kq
  have c6_0 := KB.2.2.2.2.2.2.2.1.cell (i := 0) rfl
  have c6_1 := KB.2.2.2.2.2.2.2.1.cell (i := 1) rfl
  have c6_2 := KB.2.2.2.2.2.2.2.1.cell (i := 2) rfl
  have c6_3 := KB.2.2.2.2.2.2.2.1.cell (i := 3) rfl
  have c6_4 := KB.2.2.2.2.2.2.2.1.cell (i := 4) rfl
  have c13_0 := KB.2.2.2.2.2.2.2.2.2.2.2.2.2.2.1.cell (i := 0) rfl
  have c13_1 := KB.2.2.2.2.2.2.2.2.2.2.2.2.2.2.1.cell (i := 1) rfl
  have c13_2 := KB.2.2.2.2.2.2.2.2.2.2.2.2.2.2.1.cell (i := 2) rfl
  have c13_3 := KB.2.2.2.2.2.2.2.2.2.2.2.2.2.2.1.cell (i := 3) rfl
  have c13_4 := KB.2.2.2.2.2.2.2.2.2.2.2.2.2.2.1.cell (i := 4) rfl
  clear KB
  go_wp2_with fail
  refine (zt_sub HR.out zt 13 13 6 (by omega) (by omega) (by omega) HR.out.rt HR.out.rt (HR.out.rb 6 (by omega) (by omega)) HP.out.2.1 HV.out.2.2.2.2.2.2.2.2.2.2.2.2.2.1 HV.out.2.2.2.2.2.2.2.2.2.2.2.2.2.1 HV.out.2.2.2.2.2.2.1 (HSG.out 11)).mono ?_
  rintro e wq ⟨rfl, zz⟩
  clear zt c6_0 c6_1 c6_2 c6_3 c6_4 c13_0 c13_1 c13_2 c13_3 c13_4
  have zt := zz
  clear zz
  go_upto_region 18 with (fail)
  go_cut [26] from 143 to 150 (fun x wx => ∃ ok' : Bool, x = .bool ok' ∧ Zt L X b0 g s n u (u + PS + PT + PU + PU) (u + (p * q + q * r + 2 * p * r) + needN p q r cut) (Prt.mk S1 B1 N1 cap1 O1 Rc Cc T1) Y m h V6 BAD ok' (SG 13) wx)
  case first =>
    as_aux_lemma =>
    cases ok14
    · go_wp2_with fail
      go_meet
      exact ⟨false, rfl, zt.off _⟩
    · skip
      have KB := HM6.out _ zt.kq
      have l0 := KB.1.cell (i := 0) rfl
      have l1 := KB.1.cell (i := 1) rfl
      have c7_0 := KB.2.2.2.2.2.2.2.2.1.cell (i := 0) rfl
      have c7_1 := KB.2.2.2.2.2.2.2.2.1.cell (i := 1) rfl
      have c7_2 := KB.2.2.2.2.2.2.2.2.1.cell (i := 2) rfl
      have c7_3 := KB.2.2.2.2.2.2.2.2.1.cell (i := 3) rfl
      have c7_4 := KB.2.2.2.2.2.2.2.2.1.cell (i := 4) rfl
      have c12_0 := KB.2.2.2.2.2.2.2.2.2.2.2.2.2.1.cell (i := 0) rfl
      have c12_1 := KB.2.2.2.2.2.2.2.2.2.2.2.2.2.1.cell (i := 1) rfl
      have c12_2 := KB.2.2.2.2.2.2.2.2.2.2.2.2.2.1.cell (i := 2) rfl
      have c12_3 := KB.2.2.2.2.2.2.2.2.2.2.2.2.2.1.cell (i := 3) rfl
      have c12_4 := KB.2.2.2.2.2.2.2.2.2.2.2.2.2.1.cell (i := 4) rfl
      have c15_0 := KB.2.2.2.2.2.2.2.2.2.2.2.2.2.2.2.2.cell (i := 0) rfl
      have c15_1 := KB.2.2.2.2.2.2.2.2.2.2.2.2.2.2.2.2.cell (i := 1) rfl
      have c15_2 := KB.2.2.2.2.2.2.2.2.2.2.2.2.2.2.2.2.cell (i := 2) rfl
      have c15_3 := KB.2.2.2.2.2.2.2.2.2.2.2.2.2.2.2.2.cell (i := 3) rfl
      have c15_4 := KB.2.2.2.2.2.2.2.2.2.2.2.2.2.2.2.2.cell (i := 4) rfl
      clear KB
      go_wp2_with fail
      refine (zt_mul HR.out HMS.out HNT.out.1 HNT.out.2 zt 15 12 7 (by omega) (by omega) (by omega) (by omega) (by omega) HR.out.rp HR.out.rs (HR.out.rb 7 (by omega) (by omega)) HV.out.2.2.2.2.2.2.2.2.2.2.2.2.2.2.2 HV.out.2.2.2.2.2.2.2.2.2.2.2.2.1 HV.out.2.2.2.2.2.2.2.1 (HSG.out 12) HBD.out.2.2.2.2.1).mono ?_
      rintro e wq ⟨ok2, rfl, zz⟩
      clear zt l0 l1 c7_0 c7_1 c7_2 c7_3 c7_4 c12_0 c12_1 c12_2 c12_3 c12_4 c15_0 c15_1 c15_2 c15_3 c15_4
      have zt := zz
      clear zz
      go_wp2_with fail
      go_meet
      exact ⟨ok2, rfl, zt⟩
  clear zt
  obtain ⟨ok18, rfl, zt⟩ := hcut
  obtain ⟨wd, rfl⟩ : ∃ wo, wo = wc := ⟨_, rfl⟩
  have KB := HM6.out _ zt.kq
  have c9_0 := KB.2.2.2.2.2.2.2.2.2.2.1.cell (i := 0) rfl
  have c9_1 := KB.2.2.2.2.2.2.2.2.2.2.1.cell (i := 1) rfl
  have c9_2 := KB.2.2.2.2.2.2.2.2.2.2.1.cell (i := 2) rfl
  have c9_3 := KB.2.2.2.2.2.2.2.2.2.2.1.cell (i := 3) rfl
  have c9_4 := KB.2.2.2.2.2.2.2.2.2.2.1.cell (i := 4) rfl
  have c11_0 := KB.2.2.2.2.2.2.2.2.2.2.2.2.1.cell (i := 0) rfl
  have c11_1 := KB.2.2.2.2.2.2.2.2.2.2.2.2.1.cell (i := 1) rfl
  have c11_2 := KB.2.2.2.2.2.2.2.2.2.2.2.2.1.cell (i := 2) rfl
  have c11_3 := KB.2.2.2.2.2.2.2.2.2.2.2.2.1.cell (i := 3) rfl
  have c11_4 := KB.2.2.2.2.2.2.2.2.2.2.2.2.1.cell (i := 4) rfl
  have c14_0 := KB.2.2.2.2.2.2.2.2.2.2.2.2.2.2.2.1.cell (i := 0) rfl
  have c14_1 := KB.2.2.2.2.2.2.2.2.2.2.2.2.2.2.2.1.cell (i := 1) rfl
  have c14_2 := KB.2.2.2.2.2.2.2.2.2.2.2.2.2.2.2.1.cell (i := 2) rfl
  have c14_3 := KB.2.2.2.2.2.2.2.2.2.2.2.2.2.2.2.1.cell (i := 3) rfl
  have c14_4 := KB.2.2.2.2.2.2.2.2.2.2.2.2.2.2.2.1.cell (i := 4) rfl
  clear KB
  go_wp2_with fail
  refine (zt_add HR.out zt 9 14 11 (by omega) (by omega) (by omega) (HR.out.rc 9 (by omega) (by omega)) HR.out.ru (HR.out.rc 11 (by omega) (by omega)) HP.out.2.2 HV.out.2.2.2.2.2.2.2.2.2.1 HV.out.2.2.2.2.2.2.2.2.2.2.2.2.2.2.1 HV.out.2.2.2.2.2.2.2.2.2.2.2.1 (HSG.out 13)).mono ?_
  rintro e wq ⟨rfl, zz⟩
  clear zt c9_0 c9_1 c9_2 c9_3 c9_4 c11_0 c11_1 c11_2 c11_3 c11_4 c14_0 c14_1 c14_2 c14_3 c14_4
  have zt := zz
  clear zz
  have KB := HM6.out _ zt.kq
  have c9_0 := KB.2.2.2.2.2.2.2.2.2.2.1.cell (i := 0) rfl
  have c9_1 := KB.2.2.2.2.2.2.2.2.2.2.1.cell (i := 1) rfl
  have c9_2 := KB.2.2.2.2.2.2.2.2.2.2.1.cell (i := 2) rfl
  have c9_3 := KB.2.2.2.2.2.2.2.2.2.2.1.cell (i := 3) rfl
  have c9_4 := KB.2.2.2.2.2.2.2.2.2.2.1.cell (i := 4) rfl
  have c15_0 := KB.2.2.2.2.2.2.2.2.2.2.2.2.2.2.2.2.cell (i := 0) rfl
  have c15_1 := KB.2.2.2.2.2.2.2.2.2.2.2.2.2.2.2.2.cell (i := 1) rfl
  have c15_2 := KB.2.2.2.2.2.2.2.2.2.2.2.2.2.2.2.2.cell (i := 2) rfl
  have c15_3 := KB.2.2.2.2.2.2.2.2.2.2.2.2.2.2.2.2.cell (i := 3) rfl
  have c15_4 := KB.2.2.2.2.2.2.2.2.2.2.2.2.2.2.2.2.cell (i := 4) rfl
  clear KB
  go_wp2_with fail
  refine (zt_add HR.out zt 9 9 15 (by omega) (by omega) (by omega) (HR.out.rc 9 (by omega) (by omega)) (HR.out.rc 9 (by omega) (by omega)) HR.out.rp HP.out.2.2 HV.out.2.2.2.2.2.2.2.2.2.1 HV.out.2.2.2.2.2.2.2.2.2.1 HV.out.2.2.2.2.2.2.2.2.2.2.2.2.2.2.2 (HSG.out 14)).mono ?_
  rintro e wq ⟨rfl, zz⟩
  clear zt c9_0 c9_1 c9_2 c9_3 c9_4 c15_0 c15_1 c15_2 c15_3 c15_4
  have zt := zz
  clear zz
  go_upto_region 21 with (fail)
  go_cut [26] from 159 to 166 (fun x wx => ∃ ok' : Bool, x = .bool ok' ∧ Zt L X b0 g s n u (u + PS + PT + PU + PU) (u + (p * q + q * r + 2 * p * r) + needN p q r cut) (Prt.mk S1 B1 N1 cap1 O1 Rc Cc T1) Y m h V6 BAD ok' (SG 16) wx)
  case first =>
    as_aux_lemma =>
    cases ok18
    · go_wp2_with fail
      go_meet
      exact ⟨false, rfl, zt.off _⟩
    · skip
      have KB := HM6.out _ zt.kq
      have l0 := KB.1.cell (i := 0) rfl
      have l1 := KB.1.cell (i := 1) rfl
      have c3_0 := KB.2.2.2.2.1.cell (i := 0) rfl
      have c3_1 := KB.2.2.2.2.1.cell (i := 1) rfl
      have c3_2 := KB.2.2.2.2.1.cell (i := 2) rfl
      have c3_3 := KB.2.2.2.2.1.cell (i := 3) rfl
      have c3_4 := KB.2.2.2.2.1.cell (i := 4) rfl
      have c10_0 := KB.2.2.2.2.2.2.2.2.2.2.2.1.cell (i := 0) rfl
      have c10_1 := KB.2.2.2.2.2.2.2.2.2.2.2.1.cell (i := 1) rfl
      have c10_2 := KB.2.2.2.2.2.2.2.2.2.2.2.1.cell (i := 2) rfl
      have c10_3 := KB.2.2.2.2.2.2.2.2.2.2.2.1.cell (i := 3) rfl
      have c10_4 := KB.2.2.2.2.2.2.2.2.2.2.2.1.cell (i := 4) rfl
      have c13_0 := KB.2.2.2.2.2.2.2.2.2.2.2.2.2.2.1.cell (i := 0) rfl
      have c13_1 := KB.2.2.2.2.2.2.2.2.2.2.2.2.2.2.1.cell (i := 1) rfl
      have c13_2 := KB.2.2.2.2.2.2.2.2.2.2.2.2.2.2.1.cell (i := 2) rfl
      have c13_3 := KB.2.2.2.2.2.2.2.2.2.2.2.2.2.2.1.cell (i := 3) rfl
      have c13_4 := KB.2.2.2.2.2.2.2.2.2.2.2.2.2.2.1.cell (i := 4) rfl
      clear KB
      go_wp2_with fail
      refine (zt_mul HR.out HMS.out HNT.out.1 HNT.out.2 zt 10 3 13 (by omega) (by omega) (by omega) (by omega) (by omega) (HR.out.rc 10 (by omega) (by omega)) (HR.out.ra 3 (by omega)) HR.out.rt HV.out.2.2.2.2.2.2.2.2.2.2.1 HV.out.2.2.2.1 HV.out.2.2.2.2.2.2.2.2.2.2.2.2.2.1 (HSG.out 15) HBD.out.2.2.2.2.2.1).mono ?_
      rintro e wq ⟨ok2, rfl, zz⟩
      clear zt l0 l1 c3_0 c3_1 c3_2 c3_3 c3_4 c10_0 c10_1 c10_2 c10_3 c10_4 c13_0 c13_1 c13_2 c13_3 c13_4
      have zt := zz
      clear zz
      go_wp2_with fail
      go_meet
      exact ⟨ok2, rfl, zt⟩
  clear zt
  obtain ⟨ok21, rfl, zt⟩ := hcut
  obtain ⟨wd, rfl⟩ : ∃ wo, wo = wc := ⟨_, rfl⟩
  have KB := HM6.out _ zt.kq
  have c0_0 := KB.2.1.cell (i := 0) rfl
  have c0_1 := KB.2.1.cell (i := 1) rfl
  have c0_2 := KB.2.1.cell (i := 2) rfl
  have c0_3 := KB.2.1.cell (i := 3) rfl
  have c0_4 := KB.2.1.cell (i := 4) rfl
  have c2_0 := KB.2.2.2.1.cell (i := 0) rfl
  have c2_1 := KB.2.2.2.1.cell (i := 1) rfl
  have c2_2 := KB.2.2.2.1.cell (i := 2) rfl
  have c2_3 := KB.2.2.2.1.cell (i := 3) rfl
  have c2_4 := KB.2.2.2.1.cell (i := 4) rfl
  have c12_0 := KB.2.2.2.2.2.2.2.2.2.2.2.2.2.1.cell (i := 0) rfl
  have c12_1 := KB.2.2.2.2.2.2.2.2.2.2.2.2.2.1.cell (i := 1) rfl
  have c12_2 := KB.2.2.2.2.2.2.2.2.2.2.2.2.2.1.cell (i := 2) rfl
  have c12_3 := KB.2.2.2.2.2.2.2.2.2.2.2.2.2.1.cell (i := 3) rfl
  have c12_4 := KB.2.2.2.2.2.2.2.2.2.2.2.2.2.1.cell (i := 4) rfl
  clear KB
  go_wp2_with fail
  refine (zt_sub HR.out zt 12 0 2 (by omega) (by omega) (by omega) HR.out.rs (HR.out.ra 0 (by omega)) (HR.out.ra 2 (by omega)) HP.out.1 HV.out.2.2.2.2.2.2.2.2.2.2.2.2.1 HV.out.1 HV.out.2.2.1 (HSG.out 16)).mono ?_
  rintro e wq ⟨rfl, zz⟩
  clear zt c0_0 c0_1 c0_2 c0_3 c0_4 c2_0 c2_1 c2_2 c2_3 c2_4 c12_0 c12_1 c12_2 c12_3 c12_4
  have zt := zz
  clear zz
  have KB := HM6.out _ zt.kq
  have c5_0 := KB.2.2.2.2.2.2.1.cell (i := 0) rfl
  have c5_1 := KB.2.2.2.2.2.2.1.cell (i := 1) rfl
  have c5_2 := KB.2.2.2.2.2.2.1.cell (i := 2) rfl
  have c5_3 := KB.2.2.2.2.2.2.1.cell (i := 3) rfl
  have c5_4 := KB.2.2.2.2.2.2.1.cell (i := 4) rfl
  have c7_0 := KB.2.2.2.2.2.2.2.2.1.cell (i := 0) rfl
  have c7_1 := KB.2.2.2.2.2.2.2.2.1.cell (i := 1) rfl
  have c7_2 := KB.2.2.2.2.2.2.2.2.1.cell (i := 2) rfl
  have c7_3 := KB.2.2.2.2.2.2.2.2.1.cell (i := 3) rfl
  have c7_4 := KB.2.2.2.2.2.2.2.2.1.cell (i := 4) rfl
  have c13_0 := KB.2.2.2.2.2.2.2.2.2.2.2.2.2.2.1.cell (i := 0) rfl
  have c13_1 := KB.2.2.2.2.2.2.2.2.2.2.2.2.2.2.1.cell (i := 1) rfl
  have c13_2 := KB.2.2.2.2.2.2.2.2.2.2.2.2.2.2.1.cell (i := 2) rfl
  have c13_3 := KB.2.2.2.2.2.2.2.2.2.2.2.2.2.2.1.cell (i := 3) rfl
  have c13_4 := KB.2.2.2.2.2.2.2.2.2.2.2.2.2.2.1.cell (i := 4) rfl
  clear KB
  go_wp2_with fail
  refine (zt_sub HR.out zt 13 7 5 (by omega) (by omega) (by omega) HR.out.rt (HR.out.rb 7 (by omega) (by omega)) (HR.out.rb 5 (by omega) (by omega)) HP.out.2.1 HV.out.2.2.2.2.2.2.2.2.2.2.2.2.2.1 HV.out.2.2.2.2.2.2.2.1 HV.out.2.2.2.2.2.1 (HSG.out 17)).mono ?_
  rintro e wq ⟨rfl, zz⟩
  clear zt c5_0 c5_1 c5_2 c5_3 c5_4 c7_0 c7_1 c7_2 c7_3 c7_4 c13_0 c13_1 c13_2 c13_3 c13_4
  have zt := zz
  clear zz
  go_upto_region 24 with (fail)
  go_cut [26] from 175 to 182 (fun x wx => ∃ ok' : Bool, x = .bool ok' ∧ Zt L X b0 g s n u (u + PS + PT + PU + PU) (u + (p * q + q * r + 2 * p * r) + needN p q r cut) (Prt.mk S1 B1 N1 cap1 O1 Rc Cc T1) Y m h V6 BAD ok' (SG 19) wx)
  case first =>
    as_aux_lemma =>
    cases ok21
    · go_wp2_with fail
      go_meet
      exact ⟨false, rfl, zt.off _⟩
    · skip
      have KB := HM6.out _ zt.kq
      have l0 := KB.1.cell (i := 0) rfl
      have l1 := KB.1.cell (i := 1) rfl
      have c12_0 := KB.2.2.2.2.2.2.2.2.2.2.2.2.2.1.cell (i := 0) rfl
      have c12_1 := KB.2.2.2.2.2.2.2.2.2.2.2.2.2.1.cell (i := 1) rfl
      have c12_2 := KB.2.2.2.2.2.2.2.2.2.2.2.2.2.1.cell (i := 2) rfl
      have c12_3 := KB.2.2.2.2.2.2.2.2.2.2.2.2.2.1.cell (i := 3) rfl
      have c12_4 := KB.2.2.2.2.2.2.2.2.2.2.2.2.2.1.cell (i := 4) rfl
      have c13_0 := KB.2.2.2.2.2.2.2.2.2.2.2.2.2.2.1.cell (i := 0) rfl
      have c13_1 := KB.2.2.2.2.2.2.2.2.2.2.2.2.2.2.1.cell (i := 1) rfl
      have c13_2 := KB.2.2.2.2.2.2.2.2.2.2.2.2.2.2.1.cell (i := 2) rfl
      have c13_3 := KB.2.2.2.2.2.2.2.2.2.2.2.2.2.2.1.cell (i := 3) rfl
      have c13_4 := KB.2.2.2.2.2.2.2.2.2.2.2.2.2.2.1.cell (i := 4) rfl
      have c15_0 := KB.2.2.2.2.2.2.2.2.2.2.2.2.2.2.2.2.cell (i := 0) rfl
      have c15_1 := KB.2.2.2.2.2.2.2.2.2.2.2.2.2.2.2.2.cell (i := 1) rfl
      have c15_2 := KB.2.2.2.2.2.2.2.2.2.2.2.2.2.2.2.2.cell (i := 2) rfl
      have c15_3 := KB.2.2.2.2.2.2.2.2.2.2.2.2.2.2.2.2.cell (i := 3) rfl
      have c15_4 := KB.2.2.2.2.2.2.2.2.2.2.2.2.2.2.2.2.cell (i := 4) rfl
      clear KB
      go_wp2_with fail
      refine (zt_mul HR.out HMS.out HNT.out.1 HNT.out.2 zt 15 12 13 (by omega) (by omega) (by omega) (by omega) (by omega) HR.out.rp HR.out.rs HR.out.rt HV.out.2.2.2.2.2.2.2.2.2.2.2.2.2.2.2 HV.out.2.2.2.2.2.2.2.2.2.2.2.2.1 HV.out.2.2.2.2.2.2.2.2.2.2.2.2.2.1 (HSG.out 18) HBD.out.2.2.2.2.2.2).mono ?_
      rintro e wq ⟨ok2, rfl, zz⟩
      clear zt l0 l1 c12_0 c12_1 c12_2 c12_3 c12_4 c13_0 c13_1 c13_2 c13_3 c13_4 c15_0 c15_1 c15_2 c15_3 c15_4
      have zt := zz
      clear zz
      go_wp2_with fail
      go_meet
      exact ⟨ok2, rfl, zt⟩
  clear zt
  obtain ⟨ok24, rfl, zt⟩ := hcut
  obtain ⟨wd, rfl⟩ : ∃ wo, wo = wc := ⟨_, rfl⟩
  have KB := HM6.out _ zt.kq
  have c14_0 := KB.2.2.2.2.2.2.2.2.2.2.2.2.2.2.2.1.cell (i := 0) rfl
  have c14_1 := KB.2.2.2.2.2.2.2.2.2.2.2.2.2.2.2.1.cell (i := 1) rfl
  have c14_2 := KB.2.2.2.2.2.2.2.2.2.2.2.2.2.2.2.1.cell (i := 2) rfl
  have c14_3 := KB.2.2.2.2.2.2.2.2.2.2.2.2.2.2.2.1.cell (i := 3) rfl
  have c14_4 := KB.2.2.2.2.2.2.2.2.2.2.2.2.2.2.2.1.cell (i := 4) rfl
  have c15_0 := KB.2.2.2.2.2.2.2.2.2.2.2.2.2.2.2.2.cell (i := 0) rfl
  have c15_1 := KB.2.2.2.2.2.2.2.2.2.2.2.2.2.2.2.2.cell (i := 1) rfl
  have c15_2 := KB.2.2.2.2.2.2.2.2.2.2.2.2.2.2.2.2.cell (i := 2) rfl
  have c15_3 := KB.2.2.2.2.2.2.2.2.2.2.2.2.2.2.2.2.cell (i := 3) rfl
  have c15_4 := KB.2.2.2.2.2.2.2.2.2.2.2.2.2.2.2.2.cell (i := 4) rfl
  clear KB
  go_wp2_with fail
  refine (zt_add HR.out zt 14 14 15 (by omega) (by omega) (by omega) HR.out.ru HR.out.ru HR.out.rp HP.out.2.2 HV.out.2.2.2.2.2.2.2.2.2.2.2.2.2.2.1 HV.out.2.2.2.2.2.2.2.2.2.2.2.2.2.2.1 HV.out.2.2.2.2.2.2.2.2.2.2.2.2.2.2.2 (HSG.out 19)).mono ?_
  rintro e wq ⟨rfl, zz⟩
  clear zt c14_0 c14_1 c14_2 c14_3 c14_4 c15_0 c15_1 c15_2 c15_3 c15_4
  have zt := zz
  clear zz
  have KB := HM6.out _ zt.kq
  have c10_0 := KB.2.2.2.2.2.2.2.2.2.2.2.1.cell (i := 0) rfl
  have c10_1 := KB.2.2.2.2.2.2.2.2.2.2.2.1.cell (i := 1) rfl
  have c10_2 := KB.2.2.2.2.2.2.2.2.2.2.2.1.cell (i := 2) rfl
  have c10_3 := KB.2.2.2.2.2.2.2.2.2.2.2.1.cell (i := 3) rfl
  have c10_4 := KB.2.2.2.2.2.2.2.2.2.2.2.1.cell (i := 4) rfl
  have c14_0 := KB.2.2.2.2.2.2.2.2.2.2.2.2.2.2.2.1.cell (i := 0) rfl
  have c14_1 := KB.2.2.2.2.2.2.2.2.2.2.2.2.2.2.2.1.cell (i := 1) rfl
  have c14_2 := KB.2.2.2.2.2.2.2.2.2.2.2.2.2.2.2.1.cell (i := 2) rfl
  have c14_3 := KB.2.2.2.2.2.2.2.2.2.2.2.2.2.2.2.1.cell (i := 3) rfl
  have c14_4 := KB.2.2.2.2.2.2.2.2.2.2.2.2.2.2.2.1.cell (i := 4) rfl
  clear KB
  go_wp2_with fail
  refine (zt_sub HR.out zt 10 14 10 (by omega) (by omega) (by omega) (HR.out.rc 10 (by omega) (by omega)) HR.out.ru (HR.out.rc 10 (by omega) (by omega)) HP.out.2.2 HV.out.2.2.2.2.2.2.2.2.2.2.1 HV.out.2.2.2.2.2.2.2.2.2.2.2.2.2.2.1 HV.out.2.2.2.2.2.2.2.2.2.2.1 (HSG.out 20)).mono ?_
  rintro e wq ⟨rfl, zz⟩
  clear zt c10_0 c10_1 c10_2 c10_3 c10_4 c14_0 c14_1 c14_2 c14_3 c14_4
  have zt := zz
  clear zz
  have KB := HM6.out _ zt.kq
  have c11_0 := KB.2.2.2.2.2.2.2.2.2.2.2.2.1.cell (i := 0) rfl
  have c11_1 := KB.2.2.2.2.2.2.2.2.2.2.2.2.1.cell (i := 1) rfl
  have c11_2 := KB.2.2.2.2.2.2.2.2.2.2.2.2.1.cell (i := 2) rfl
  have c11_3 := KB.2.2.2.2.2.2.2.2.2.2.2.2.1.cell (i := 3) rfl
  have c11_4 := KB.2.2.2.2.2.2.2.2.2.2.2.2.1.cell (i := 4) rfl
  have c14_0 := KB.2.2.2.2.2.2.2.2.2.2.2.2.2.2.2.1.cell (i := 0) rfl
  have c14_1 := KB.2.2.2.2.2.2.2.2.2.2.2.2.2.2.2.1.cell (i := 1) rfl
  have c14_2 := KB.2.2.2.2.2.2.2.2.2.2.2.2.2.2.2.1.cell (i := 2) rfl
  have c14_3 := KB.2.2.2.2.2.2.2.2.2.2.2.2.2.2.2.1.cell (i := 3) rfl
  have c14_4 := KB.2.2.2.2.2.2.2.2.2.2.2.2.2.2.2.1.cell (i := 4) rfl
  clear KB
  go_wp2_with fail
  refine (zt_add HR.out zt 11 14 11 (by omega) (by omega) (by omega) (HR.out.rc 11 (by omega) (by omega)) HR.out.ru (HR.out.rc 11 (by omega) (by omega)) HP.out.2.2 HV.out.2.2.2.2.2.2.2.2.2.2.2.1 HV.out.2.2.2.2.2.2.2.2.2.2.2.2.2.2.1 HV.out.2.2.2.2.2.2.2.2.2.2.2.1 (HSG.out 21)).mono ?_
  rintro e wq ⟨rfl, zz⟩
  clear zt c11_0 c11_1 c11_2 c11_3 c11_4 c14_0 c14_1 c14_2 c14_3 c14_4
  have zt := zz
  clear zz
  obtain ⟨v, ⟨⟨m7, h7, st7, en7, un7, lo7, up7⟩, kq7⟩, hok, hbad⟩ := zt
  have l0 := (HM6.out _ kq7).1.cell (i := 0) rfl
  have HS7 := Lib.hid (And.intro st7 (And.intro en7 (And.intro un7 (And.intro lo7 (And.intro up7 (And.intro kq7 (And.intro hok hbad)))))))
  have hrl := Lib.hid (wi_release (u' := u) st7 HXS.out (by have := HNT.out; omega))
  clear st7 en7 un7 lo7 up7 kq7 hok hbad
  go_wp2_with fail
  refine hrl.out.mono ?_
  rintro e wz ⟨rfl, stz, kqz⟩
  clear hrl l0
  go_wp2
  go_ret
  obtain ⟨st7, en7, un7, lo7, up7, kq7, hok, hbad⟩ := HS7.out
  refine ⟨ok24, m7, h7, rfl, stz, un7, fun hk i j hi hj => ?_, fun hk => by rw [← HBE.out]; exact hbad hk, lo7, up7, (HKW.out.trans kq7).trans kqz⟩
  rw [hok hk, HSE.out, HYE.out] at en7
  exact env_end en7 hi hj
end Go.Proofs.Ytjapilpjahhimaa
