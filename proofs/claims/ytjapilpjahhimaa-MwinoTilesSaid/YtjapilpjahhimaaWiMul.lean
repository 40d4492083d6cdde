/- winograd: multiply. -/
import Derived.Test.YtjapilpjahhimaaWiSeven
import Derived.Test.YtjapilpjahhimaaWiMem
import Derived.Test.YtjapilpjahhimaaNeSpec
import Derived.BigQuiet
namespace Go.Proofs.Ytjapilpjahhimaa
open Go.RowKit Go.Shelf
theorem blk_fun (P : Prt) (m : Nat → Nat → Nat) (r c : Nat) : (P.blk 0 0 r c).get m = P.get m := by
  funext i j
  rw [Prt.blk_get, Nat.zero_add, Nat.zero_add]
theorem dot_rows {f f' : Fn} {g g' : Fn} {K i j i' j' : Nat} (hf : ∀ t, t < K → f i t = f' i' t) (hg : ∀ t, t < K → g t j = g' t j') : dotN f g K i j = dotN f' g' K i' j' := by
  unfold dotN
  have e1 : rowV K (f i) = rowV K (f' i') := ext_lim (by rw [rowV_length, rowV_length]) fun t ht => by rw [rowV_length] at ht; rw [rowV_lim _ ht, rowV_lim _ ht, hf t ht]
  have e2 : (rowV K fun t => g t j) = rowV K fun t => g' t j' := ext_lim (by rw [rowV_length, rowV_length]) fun t ht => by rw [rowV_length] at ht; rw [rowV_lim _ ht, rowV_lim _ ht, hg t ht]
  rw [e1, e2]
theorem andnot_fin : ∀ p : Fin 65, bits BinOp.andNot IntKind.i64 (p.val : Int) 1 = ((2 * (p.val / 2) : Nat) : Int) := by decide
theorem andnot_one {p : Nat} (h : p ≤ 64) : bits BinOp.andNot IntKind.i64 (p : Int) 1 = ((2 * (p / 2) : Nat) : Int) := andnot_fin ⟨p, by omega⟩
theorem keep_get {P C : Prt} {s u : Nat} {m m' : Nat → Nat → Nat} (hd : Dis P C) (hf : Fre s u P) (hm : ∀ S o, ¬ C.has S o → ¬ (S = s ∧ u ≤ o) → m' S o = m S o) {i j : Nat} (hi : i < P.R) (hj : j < P.C) : P.get m' i j = P.get m i j := by
  unfold Prt.get
  refine hm _ _ ?_ ?_
  · rintro ⟨e1, a, b, ha, hb, e2⟩
    rcases hd i j a b hi hj ha hb with k | k
    · exact k e1
    · exact k e2
  · rintro ⟨e1, e2⟩
    rcases hf with k | k
    · exact k e1
    · have := k i j hi hj; omega
theorem own_cap {k : IntKind} {t : TypeId} {b d n c : Nat} {W : World} {zs : List Int} (h : OwnK k t b W (.slice (some ⟨d, 0, none⟩) n c) zs) : n ≤ c ∧ b ≤ d ∧ d < W.heap.size := by
  unfold OwnK World.ownsRow at h
  rcases h.2 with ⟨e, _⟩ | ⟨g', cap', cur, e, hb, hg, hc1, hc2, hc3, hc4⟩
  · simp at e
  · simp only [Value.slice.injEq, Option.some.injEq, Addr.mk.injEq, and_true] at e
    have := (Array.getElem?_eq_some_iff.1 hg).1
    omega
/-- what multiply makes, put together -/
theorem mul_end {p q r : Nat} {rec : Fn → Fn → Fn} {f g : Fn} {F1 F2 F3 F4 : Fn}
    (h1 : ∀ i j, i < 2 * (p / 2) → j < 2 * (r / 2) → F1 i j = qd (p / 2) (r / 2) (bl (pr rec (p / 2) (q / 2) (r / 2) f g)) i j)
    (h2 : ∀ i j, i < 2 * (p / 2) → j < 2 * (r / 2) → F2 i j = if q % 2 = 1 then plusU (F1 i j) (timesU (f i (q - 1)) (g (q - 1) j)) else F1 i j)
    (h3 : ∀ i j, i < 2 * (p / 2) → j < 2 * (r / 2) → F3 i j = F2 i j) (h3' : ∀ i j, i < 2 * (p / 2) → j < r - 2 * (r / 2) → F3 i (2 * (r / 2) + j) = dotN f g q i (2 * (r / 2) + j))
    (h4 : ∀ i j, i < 2 * (p / 2) → j < r → F4 i j = F3 i j) (h4' : ∀ i j, i < p - 2 * (p / 2) → j < r → F4 (2 * (p / 2) + i) j = dotN f g q (2 * (p / 2) + i) j) {i j : Nat} (hi : i < p) (hj : j < r) : F4 i j = combo p q r rec f g i j := by
  unfold combo
  by_cases c1 : i < 2 * (p / 2)
  · rw [h4 i j c1 hj]
    by_cases c2 : j < 2 * (r / 2)
    · rw [if_pos ⟨c1, c2⟩, h3 i j c1 c2, h2 i j c1 c2, h1 i j c1 c2]
    · rw [if_neg (fun h => c2 h.2)]
      have := h3' i (j - 2 * (r / 2)) c1 (by omega)
      rwa [show 2 * (r / 2) + (j - 2 * (r / 2)) = j by omega] at this
  · rw [if_neg (fun h => c1 h.1)]
    have := h4' (i - 2 * (p / 2)) j (by omega) hj
    rwa [show 2 * (p / 2) + (i - 2 * (p / 2)) = i by omega] at this
set_option maxRecDepth 100000 in
set_option maxHeartbeats 32000000 in
theorem wi_mulF {L : Nat → Nat → Prop} {X : Nat → Prop} {b0 g s n cut p q r u h S1 B1 N1 cap1 O1 T1 S2 B2 N2 cap2 O2 T2 S3 B3 N3 cap3 O3 T3 : Nat} {m : Nat → Nat → Nat} {w : World}
    (hs : St L X b0 g s n u h m w) (h1 : (Prt.mk S1 B1 N1 cap1 O1 p r T1).ok L) (h2 : (Prt.mk S2 B2 N2 cap2 O2 p q T2).ok L) (h3 : (Prt.mk S3 B3 N3 cap3 O3 q r T3).ok L) (hf : fastN p q r cut = true) (hcut : 1 ≤ cut) (hX : X S1) (hXs : X s) (hun : u + needN p q r cut ≤ n)
    (hM : MulSpec L X b0 g s n cut (p / 2) (q / 2) (r / 2)) (hL : ∀ o, o < n → L s o) (dA : Dis (Prt.mk S2 B2 N2 cap2 O2 p q T2) (Prt.mk S1 B1 N1 cap1 O1 p r T1)) (dB : Dis (Prt.mk S3 B3 N3 cap3 O3 q r T3) (Prt.mk S1 B1 N1 cap1 O1 p r T1)) (fA : Fre s u (Prt.mk S2 B2 N2 cap2 O2 p q T2)) (fB : Fre s u (Prt.mk S3 B3 N3 cap3 O3 q r T3)) (fC : Fre s u (Prt.mk S1 B1 N1 cap1 O1 p r T1)) :
    Calls Try.prog 55 #[.agg #[.pointer (some ⟨g, 0, none⟩), .int .i64 (cut : Int)], .agg #[.int .i64 (p : Int), .int .i64 (r : Int), .int .i64 (T1 : Int), .int .i64 (O1 : Int), .slice (some ⟨S1, B1, none⟩) N1 cap1], .agg #[.int .i64 (p : Int), .int .i64 (q : Int), .int .i64 (T2 : Int), .int .i64 (O2 : Int), .slice (some ⟨S2, B2, none⟩) N2 cap2], .agg #[.int .i64 (q : Int), .int .i64 (r : Int), .int .i64 (T3 : Int), .int .i64 (O3 : Int), .slice (some ⟨S3, B3, none⟩) N3 cap3]] w fun e W' => ∃ (ok : Bool) (m' : Nat → Nat → Nat) (h' : Nat), e = .returned (.bool ok) ∧ St L X b0 g s n u h' m' W' ∧ (∀ S o, ¬ (Prt.mk S1 B1 N1 cap1 O1 p r T1).has S o → ¬ (S = s ∧ u ≤ o) → m' S o = m S o) ∧
      (ok = true → ∀ i j, i < p → j < r → (Prt.mk S1 B1 N1 cap1 O1 p r T1).get m' i j = (sevN cut p q r ((Prt.mk S2 B2 N2 cap2 O2 p q T2).get m) ((Prt.mk S3 B3 N3 cap3 O3 q r T3).get m)) i j) ∧ (ok = false → Bad p r (sevN cut p q r ((Prt.mk S2 B2 N2 cap2 O2 p q T2).get m) ((Prt.mk S3 B3 N3 cap3 O3 q r T3).get m))) ∧ h ≤ h' ∧ h' ≤ max h (u + needN p q r cut) ∧ Kq X g w W' := by
  suffices HPOST : ∀ POST : Ending → World → Prop, (∀ (ok : Bool) (m' : Nat → Nat → Nat) (h' : Nat) (W' : World), (St L X b0 g s n u h' m' W' ∧ (∀ S o, ¬ (Prt.mk S1 B1 N1 cap1 O1 p r T1).has S o → ¬ (S = s ∧ u ≤ o) → m' S o = m S o) ∧
      (ok = true → ∀ i j, i < p → j < r → (Prt.mk S1 B1 N1 cap1 O1 p r T1).get m' i j = (sevN cut p q r ((Prt.mk S2 B2 N2 cap2 O2 p q T2).get m) ((Prt.mk S3 B3 N3 cap3 O3 q r T3).get m)) i j) ∧ (ok = false → Bad p r (sevN cut p q r ((Prt.mk S2 B2 N2 cap2 O2 p q T2).get m) ((Prt.mk S3 B3 N3 cap3 O3 q r T3).get m))) ∧ h ≤ h' ∧ h' ≤ max h (u + needN p q r cut) ∧ Kq X g w W') → POST (.returned (.bool ok)) W') → Calls Try.prog 55 #[.agg #[.pointer (some ⟨g, 0, none⟩), .int .i64 (cut : Int)], .agg #[.int .i64 (p : Int), .int .i64 (r : Int), .int .i64 (T1 : Int), .int .i64 (O1 : Int), .slice (some ⟨S1, B1, none⟩) N1 cap1], .agg #[.int .i64 (p : Int), .int .i64 (q : Int), .int .i64 (T2 : Int), .int .i64 (O2 : Int), .slice (some ⟨S2, B2, none⟩) N2 cap2], .agg #[.int .i64 (q : Int), .int .i64 (r : Int), .int .i64 (T3 : Int), .int .i64 (O3 : Int), .slice (some ⟨S3, B3, none⟩) N3 cap3]] w POST from HPOST _ (fun ok m' h' W' hh => ⟨ok, m', h', rfl, hh⟩)
  intro POST HP
  have hp64 : p ≤ 64 := h1.r
  have hr64 : r ≤ 64 := h1.c
  have hq64 : q ≤ 64 := h2.c
  obtain ⟨f1, f2, f3⟩ := fastN_iff.1 hf
  rw [sevN_fast hf] at HP
  have hnd := needN_fast hf
  obtain ⟨rec, hrec⟩ : ∃ F, F = sevN cut (p / 2) (q / 2) (r / 2) := ⟨_, rfl⟩
  rw [← hrec] at HP
  have HPH := Lib.hid HP
  clear HP
  have hlf : ∀ S o, m S o < 18446744073709551616 := hs.me.lw
  have HLP : Hid (∀ x, Lf (pr rec (p / 2) (q / 2) (r / 2) ((Prt.mk S2 B2 N2 cap2 O2 p q T2).get m) ((Prt.mk S3 B3 N3 cap3 O3 q r T3).get m) x)) := Lib.hid (lf_pr (fun f g hf hg => by rw [hrec]; exact sevN_lf _ _ _ f g hf hg) (fun i j => hlf _ _) (fun i j => hlf _ _))
  obtain ⟨M, hM2⟩ : ∃ M, M = 2 * (p / 2) := ⟨_, rfl⟩
  obtain ⟨K, hK2⟩ : ∃ M, M = 2 * (q / 2) := ⟨_, rfl⟩
  obtain ⟨D, hD2⟩ : ∃ M, M = 2 * (r / 2) := ⟨_, rfl⟩
  obtain ⟨Qc, hQc⟩ : ∃ M, M = O1 + 0 * T1 + 0 := ⟨_, rfl⟩
  obtain ⟨Qa, hQa⟩ : ∃ M, M = O2 + 0 * T2 + 0 := ⟨_, rfl⟩
  obtain ⟨Qb, hQb⟩ : ∃ M, M = O3 + 0 * T3 + 0 := ⟨_, rfl⟩
  have e1 : (Prt.mk S1 B1 N1 cap1 Qc M D T1) = (Prt.mk S1 B1 N1 cap1 O1 p r T1).blk 0 0 M D := by rw [hQc]; rfl
  have e2 : (Prt.mk S2 B2 N2 cap2 Qa M K T2) = (Prt.mk S2 B2 N2 cap2 O2 p q T2).blk 0 0 M K := by rw [hQa]; rfl
  have e3 : (Prt.mk S3 B3 N3 cap3 Qb K D T3) = (Prt.mk S3 B3 N3 cap3 O3 q r T3).blk 0 0 K D := by rw [hQb]; rfl
  have HBC := Lib.hid (fun W => wi_blk (i := 0) (j := 0) (r := M) (c := D) (w := W) h1 (by show 0 + M ≤ p; omega) (by show 0 + D ≤ r; omega) (by show 0 < p; omega) (by show 0 < r; omega))
  have HBA := Lib.hid (fun W => wi_blk (i := 0) (j := 0) (r := M) (c := K) (w := W) h2 (by show 0 + M ≤ p; omega) (by show 0 + K ≤ q; omega) (by show 0 < p; omega) (by show 0 < q; omega))
  have HBB := Lib.hid (fun W => wi_blk (i := 0) (j := 0) (r := K) (c := D) (w := W) h3 (by show 0 + K ≤ q; omega) (by show 0 + D ≤ r; omega) (by show 0 < q; omega) (by show 0 < r; omega))
  rw [← e1] at HBC
  rw [← e2] at HBA
  rw [← e3] at HBB
  dsimp only [Prt.val] at HBC HBA HBB
  simp only [Int.natCast_zero] at HBC HBA HBB
  have HSV : Hid (∀ W, St L X b0 g s n u h m W → _) := Lib.hid (fun W (hst : St L X b0 g s n u h m W) => wi_seven (cut := cut) (p := p / 2) (q := q / 2) (r := r / 2) (Rc := M) (Cc := D) (Ra := M) (Ca := K) (Rb := K) (Cb := D) hst
    (by rw [e1]; exact h1.blk (by show 0 + M ≤ p; omega) (by show 0 + D ≤ r; omega) (by show 0 < p; omega) (by show 0 < r; omega))
    (by rw [e2]; exact h2.blk (by show 0 + M ≤ p; omega) (by show 0 + K ≤ q; omega) (by show 0 < p; omega) (by show 0 < q; omega))
    (by rw [e3]; exact h3.blk (by show 0 + K ≤ q; omega) (by show 0 + D ≤ r; omega) (by show 0 < q; omega) (by show 0 < r; omega))
    hM2 hK2 hK2 hD2 hM2 hD2 (by omega) (by omega) (by omega) hX hXs (by omega) hM hL
    (by rw [e2, e1]; exact (dA.blk (by show 0 + M ≤ p; omega) (by show 0 + K ≤ q; omega)).blk2 (by show 0 + M ≤ p; omega) (by show 0 + D ≤ r; omega))
    (by rw [e3, e1]; exact (dB.blk (by show 0 + K ≤ q; omega) (by show 0 + D ≤ r; omega)).blk2 (by show 0 + M ≤ p; omega) (by show 0 + D ≤ r; omega))
    (by rw [e2]; exact fre_blk fA (by show 0 + M ≤ p; omega) (by show 0 + K ≤ q; omega)) (by rw [e3]; exact fre_blk fB (by show 0 + K ≤ q; omega) (by show 0 + D ≤ r; omega)) (by rw [e1]; exact fre_blk fC (by show 0 + M ≤ p; omega) (by show 0 + D ≤ r; omega)))
  rw [← hrec, e1, e2, e3, blk_fun, blk_fun] at HSV
  have HFA := Lib.hid (fun W => wi_fast (m := p) (k := q) (n := r) (c := cut) (w := W))
  rw [hf] at HFA
  have HMD : Hid (M = 2 * (p / 2) ∧ K = 2 * (q / 2) ∧ D = 2 * (r / 2) ∧ cut < p ∧ cut < q ∧ cut < r) := Lib.hid ⟨hM2, hK2, hD2, f1, f2, f3⟩
  have HOK := Lib.hid (And.intro h1 (And.intro h2 h3))
  have HE1 := Lib.hid e1
  have HDD := Lib.hid (And.intro dA (And.intro dB (And.intro fA (And.intro fB fC))))
  have HND := Lib.hid hnd
  have HXS := Lib.hid (And.intro hX hXs)
  have HS0 := Lib.hid hs
  have HFR : Hid ((∀ S, X S → S < w.heap.size) ∧ g < w.heap.size ∧ s < w.heap.size) := Lib.hid ⟨fun S hS => (hs.me.wb S hS).lt, hs.lt2⟩
  obtain ⟨B0, G0, G1, hw⟩ := vboxm w #[.pointer (some ⟨g, 0, none⟩), .int .i64 (cut : Int)] #[.int .i64 (p : Int), .int .i64 (r : Int), .int .i64 (T1 : Int), .int .i64 (O1 : Int), .slice (some ⟨S1, B1, none⟩) N1 cap1] 79 82 _ rfl
  obtain ⟨j2, G2⟩ := mbox ((w.alloc (.cells #[.pointer (some ⟨g, 0, none⟩), .int .i64 (cut : Int)] 79)).alloc (.cells #[.int .i64 (p : Int), .int .i64 (r : Int), .int .i64 (T1 : Int), .int .i64 (O1 : Int), .slice (some ⟨S1, B1, none⟩) N1 cap1] 82)) #[.int .i64 (p : Int), .int .i64 (q : Int), .int .i64 (T2 : Int), .int .i64 (O2 : Int), .slice (some ⟨S2, B2, none⟩) N2 cap2] 82 _ rfl
  replace G0 := G0.behind j2
  replace G1 := G1.behind j2
  replace B0 := below_both B0 j2
  obtain ⟨j3, G3⟩ := mbox (((w.alloc (.cells #[.pointer (some ⟨g, 0, none⟩), .int .i64 (cut : Int)] 79)).alloc (.cells #[.int .i64 (p : Int), .int .i64 (r : Int), .int .i64 (T1 : Int), .int .i64 (O1 : Int), .slice (some ⟨S1, B1, none⟩) N1 cap1] 82)).alloc (.cells #[.int .i64 (p : Int), .int .i64 (q : Int), .int .i64 (T2 : Int), .int .i64 (O2 : Int), .slice (some ⟨S2, B2, none⟩) N2 cap2] 82)) #[.int .i64 (q : Int), .int .i64 (r : Int), .int .i64 (T3 : Int), .int .i64 (O3 : Int), .slice (some ⟨S3, B3, none⟩) N3 cap3] 82 _ rfl
  replace G0 := G0.behind j3
  replace G1 := G1.behind j3
  replace G2 := G2.behind j3
  replace B0 := below_both B0 j3
  simp only [World.size_alloc] at G2 G3
  have c0 := G2.cell (i := 0) rfl
  have c1 := G2.cell (i := 1) rfl
  have c3 := G3.cell (i := 1) rfl
  have c4 := G0.cell (i := 1) rfl
  clear hs h1 h2 h3 hf hX hXs hun hM hL dA dB fA fB fC f1 f2 f3 hnd hlf hw j2 j3 hM2 hK2 hD2 hQc hQa hQb e1 e2 e3
  go_enter Try.func55, Try.ntmps55
  go_wp2_with fail
  generalize (((w.alloc (.cells #[.pointer (some ⟨g, 0, none⟩), .int .i64 (cut : Int)] 79)).alloc (.cells #[.int .i64 (p : Int), .int .i64 (r : Int), .int .i64 (T1 : Int), .int .i64 (O1 : Int), .slice (some ⟨S1, B1, none⟩) N1 cap1] 82)).alloc (.cells #[.int .i64 (p : Int), .int .i64 (q : Int), .int .i64 (T2 : Int), .int .i64 (O2 : Int), .slice (some ⟨S2, B2, none⟩) N2 cap2] 82)).alloc (.cells #[.int .i64 (q : Int), .int .i64 (r : Int), .int .i64 (T3 : Int), .int .i64 (O3 : Int), .slice (some ⟨S3, B3, none⟩) N3 cap3] 82) = W0 at *
  have HK : Hid (∀ W, Kq X g W0 W → W.cell? ⟨w.heap.size, 0, none⟩ = some (.pointer (some ⟨g, 0, none⟩)) ∧ W.cell? ⟨w.heap.size, 1, none⟩ = some (.int .i64 (cut : Int)) ∧ W.cell? ⟨w.heap.size + 1, 0, none⟩ = some (.int .i64 (p : Int)) ∧ W.cell? ⟨w.heap.size + 1, 1, none⟩ = some (.int .i64 (r : Int)) ∧ W.cell? ⟨w.heap.size + 1, 2, none⟩ = some (.int .i64 (T1 : Int)) ∧ W.cell? ⟨w.heap.size + 1, 3, none⟩ = some (.int .i64 (O1 : Int)) ∧ W.cell? ⟨w.heap.size + 1, 4, none⟩ = some (.slice (some ⟨S1, B1, none⟩) N1 cap1) ∧ W.cell? ⟨w.heap.size + 1 + 1, 0, none⟩ = some (.int .i64 (p : Int)) ∧ W.cell? ⟨w.heap.size + 1 + 1, 1, none⟩ = some (.int .i64 (q : Int)) ∧ W.cell? ⟨w.heap.size + 1 + 1, 2, none⟩ = some (.int .i64 (T2 : Int)) ∧ W.cell? ⟨w.heap.size + 1 + 1, 3, none⟩ = some (.int .i64 (O2 : Int)) ∧ W.cell? ⟨w.heap.size + 1 + 1, 4, none⟩ = some (.slice (some ⟨S2, B2, none⟩) N2 cap2) ∧ W.cell? ⟨w.heap.size + 1 + 1 + 1, 0, none⟩ = some (.int .i64 (q : Int)) ∧ W.cell? ⟨w.heap.size + 1 + 1 + 1, 1, none⟩ = some (.int .i64 (r : Int)) ∧ W.cell? ⟨w.heap.size + 1 + 1 + 1, 2, none⟩ = some (.int .i64 (T3 : Int)) ∧ W.cell? ⟨w.heap.size + 1 + 1 + 1, 3, none⟩ = some (.int .i64 (O3 : Int)) ∧ W.cell? ⟨w.heap.size + 1 + 1 + 1, 4, none⟩ = some (.slice (some ⟨S3, B3, none⟩) N3 cap3)) := Lib.hid (fun W k => by
    have k0 := k.ms G0 (fun hh => by have := HFR.out.1 _ hh; omega) (by have := HFR.out; omega)
    have k1 := k.ms G1 (fun hh => by have := HFR.out.1 _ hh; omega) (by have := HFR.out; omega)
    have k2 := k.ms G2 (fun hh => by have := HFR.out.1 _ hh; omega) (by have := HFR.out; omega)
    have k3 := k.ms G3 (fun hh => by have := HFR.out.1 _ hh; omega) (by have := HFR.out; omega)
    exact ⟨k0.cell (i := 0) rfl, k0.cell (i := 1) rfl, k1.cell (i := 0) rfl, k1.cell (i := 1) rfl, k1.cell (i := 2) rfl, k1.cell (i := 3) rfl, k1.cell (i := 4) rfl, k2.cell (i := 0) rfl, k2.cell (i := 1) rfl, k2.cell (i := 2) rfl, k2.cell (i := 3) rfl, k2.cell (i := 4) rfl, k3.cell (i := 0) rfl, k3.cell (i := 1) rfl, k3.cell (i := 2) rfl, k3.cell (i := 3) rfl, k3.cell (i := 4) rfl⟩)
  refine (HFA.out _).mono ?_
  rintro e w1 ⟨rfl, rfl⟩
  have HKW : Hid (Kq X g w W0) := Lib.hid (Kq.of B0)
  have st0 := HS0.out.behind B0
  have HAN : Hid (bits BinOp.andNot IntKind.i64 (p : Int) 1 = (M : Int) ∧ bits BinOp.andNot IntKind.i64 (q : Int) 1 = (K : Int) ∧ bits BinOp.andNot IntKind.i64 (r : Int) 1 = (D : Int)) := Lib.hid (by
    obtain ⟨e1, e2, e3, -⟩ := HMD.out
    rw [e1, e2, e3]
    exact ⟨andnot_one hp64, andnot_one hq64, andnot_one hr64⟩)
  obtain ⟨n1, n2, n3⟩ := HAN.out
  clear B0 G0 G1 G2 G3 HFA c0 c1 c3 c4
  have d0 := (HK.out _ (Kq.refl _ _ _)).2.2.2.2.2.2.2.1
  have d1 := (HK.out _ (Kq.refl _ _ _)).2.2.2.2.2.2.2.2.1
  have d2 := (HK.out _ (Kq.refl _ _ _)).2.2.2.2.2.2.2.2.2.2.2.2.2.1
  go_wp2_with fail
  go_quiet (fail)
  clear d0 d1 d2 n1 n2 n3
  obtain ⟨W1, hW1⟩ : ∃ W, W = W0.drewN nq := ⟨_, rfl⟩
  rw [← hW1]
  have kq : Kq X g W0 W1 := by rw [hW1]; exact (Kq.refl X g W0).below (below_drewN _ _ _)
  have st : St L X b0 g s n u h m W1 := by rw [hW1]; exact st0.behind (below_drewN _ _ _)
  clear st0 hW1
  go_upto_region 4 with (fail)
  go_cut [55] from 41 to 55 (fun x wx => ∃ (ok : Bool) (m1 : Nat → Nat → Nat) (h1 : Nat), x = .bool (!ok) ∧ St L X b0 g s n u h1 m1 wx ∧ (∀ S o, ¬ ((Prt.mk S1 B1 N1 cap1 O1 p r T1).blk 0 0 M D).has S o → ¬ (S = s ∧ u ≤ o) → m1 S o = m S o) ∧ (ok = true → ∀ i j, i < 2 * (p / 2) → j < 2 * (r / 2) → ((Prt.mk S1 B1 N1 cap1 O1 p r T1).blk 0 0 M D).get m1 i j = qd (p / 2) (r / 2) (bl (pr rec (p / 2) (q / 2) (r / 2) ((Prt.mk S2 B2 N2 cap2 O2 p q T2).get m) ((Prt.mk S3 B3 N3 cap3 O3 q r T3).get m))) i j) ∧ (ok = false → ∃ x, 1 ≤ x ∧ x ≤ 7 ∧ Bad (p / 2) (r / 2) (pr rec (p / 2) (q / 2) (r / 2) ((Prt.mk S2 B2 N2 cap2 O2 p q T2).get m) ((Prt.mk S3 B3 N3 cap3 O3 q r T3).get m) x)) ∧ h ≤ h1 ∧ h1 ≤ max h (u + (p / 2 * (q / 2) + q / 2 * (r / 2) + 2 * (p / 2) * (r / 2)) + needN (p / 2) (q / 2) (r / 2) cut) ∧ Kq X g W0 wx)
  case first =>
   as_aux_lemma =>
    clear HLP HMD HOK HDD HND HXS HS0 HFR HKW HAN
    go_region_held3 (fun W => W.cell? ⟨w.heap.size, 0, none⟩ = some (.pointer (some ⟨g, 0, none⟩)) ∧ W.cell? ⟨w.heap.size, 1, none⟩ = some (.int .i64 (cut : Int)) ∧ W.cell? ⟨w.heap.size + 1, 0, none⟩ = some (.int .i64 (p : Int)) ∧ W.cell? ⟨w.heap.size + 1, 1, none⟩ = some (.int .i64 (r : Int)) ∧ W.cell? ⟨w.heap.size + 1, 2, none⟩ = some (.int .i64 (T1 : Int)) ∧ W.cell? ⟨w.heap.size + 1, 3, none⟩ = some (.int .i64 (O1 : Int)) ∧ W.cell? ⟨w.heap.size + 1, 4, none⟩ = some (.slice (some ⟨S1, B1, none⟩) N1 cap1) ∧ W.cell? ⟨w.heap.size + 1 + 1, 0, none⟩ = some (.int .i64 (p : Int)) ∧ W.cell? ⟨w.heap.size + 1 + 1, 1, none⟩ = some (.int .i64 (q : Int)) ∧ W.cell? ⟨w.heap.size + 1 + 1, 2, none⟩ = some (.int .i64 (T2 : Int)) ∧ W.cell? ⟨w.heap.size + 1 + 1, 3, none⟩ = some (.int .i64 (O2 : Int)) ∧ W.cell? ⟨w.heap.size + 1 + 1, 4, none⟩ = some (.slice (some ⟨S2, B2, none⟩) N2 cap2) ∧ W.cell? ⟨w.heap.size + 1 + 1 + 1, 0, none⟩ = some (.int .i64 (q : Int)) ∧ W.cell? ⟨w.heap.size + 1 + 1 + 1, 1, none⟩ = some (.int .i64 (r : Int)) ∧ W.cell? ⟨w.heap.size + 1 + 1 + 1, 2, none⟩ = some (.int .i64 (T3 : Int)) ∧ W.cell? ⟨w.heap.size + 1 + 1 + 1, 3, none⟩ = some (.int .i64 (O3 : Int)) ∧ W.cell? ⟨w.heap.size + 1 + 1 + 1, 4, none⟩ = some (.slice (some ⟨S3, B3, none⟩) N3 cap3))
      (first | with_reducible exact HK.out _ kq | with_reducible exact HK.out _ (Kq.drew kq) | (trace_state; fail))
      (first
        | (go_at_call 78; (refine (HSV.out _ st).mono ?_); rintro e v5 ⟨ok, m1, h1, rfl, s1, s2, s3, s4, s5, s6, s7⟩; replace kq := kq.trans s7)
        | (go_at_call 79; (first | (with_reducible refine (HBC.out _).mono ?_) | (with_reducible refine (HBA.out _).mono ?_) | (with_reducible refine (HBB.out _).mono ?_)); rintro e v4 ⟨rfl, bz⟩; (first | (with_reducible replace st := st.behind bz) | (replace st := st.drew.behind bz)); (first | (with_reducible replace kq := kq.below bz) | (replace kq := (Kq.drew kq).below bz)); clear bz)
        | (fail))
    all_goals
      go_wp2_with fail
      go_meet
      exact ⟨ok, m1, h1, rfl, s1, s2, s3, s4, s5, s6, kq⟩
  obtain ⟨ok, m1, h1, rfl, s1, s2, s3, s4, s5, s6, kq1⟩ := hcut
  obtain ⟨W2, rfl⟩ : ∃ wo, wo = wc := ⟨_, rfl⟩
  clear HSV kq st
  have hdim : Hid (M ≤ p ∧ K ≤ q ∧ D ≤ r ∧ 0 < p ∧ 0 < q ∧ 0 < r) := Lib.hid (by have := HMD.out; omega)
  have HUN : Hid (∀ S o, ¬ (Prt.mk S1 B1 N1 cap1 O1 p r T1).has S o → ¬ (S = s ∧ u ≤ o) → m1 S o = m S o) := Lib.hid (fun S o hc hsu => s2 S o (fun hh => hc (blk_has hh (by have := hdim.out; show 0 + M ≤ p; omega) (by have := hdim.out; show 0 + D ≤ r; omega))) hsu)
  have HUP : Hid (h ≤ h1 ∧ h1 ≤ max h (u + needN p q r cut)) := Lib.hid ⟨s5, by rw [HND.out]; omega⟩
  cases ok
  · as_aux_lemma =>
    have hb := s4 rfl
    have HB := Lib.hid hb
    have HS1 := Lib.hid s1
    have HKQ := Lib.hid (HKW.out.trans kq1)
    clear s1 s2 s3 s4 s5 s6 kq1 hb
    go_wp2
    refine HPH.out false m1 h1 _ ⟨HS1.out, HUN.out, (fun h => by cases h), fun _ => ?_, HUP.out.1, HUP.out.2, HKQ.out⟩
    obtain ⟨x, x1, x7, hx⟩ := HB.out
    exact combo_pr HLP.out ⟨x1, x7⟩ hx
  · have hv1 := s3 rfl
    have HV1 : Hid (∀ i j, i < 2 * (p / 2) → j < 2 * (r / 2) → (Prt.mk S1 B1 N1 cap1 O1 p r T1).get m1 i j = qd (p / 2) (r / 2) (bl (pr rec (p / 2) (q / 2) (r / 2) ((Prt.mk S2 B2 N2 cap2 O2 p q T2).get m) ((Prt.mk S3 B3 N3 cap3 O3 q r T3).get m))) i j) := Lib.hid (fun i j hi hj => by
      have := hv1 i j hi hj
      rwa [Prt.blk_get, Nat.zero_add, Nat.zero_add] at this)
    have HS1 := Lib.hid s1
    have HKQ1 := Lib.hid kq1
    clear s1 s2 s3 s4 s5 s6 hv1 kq1 HBA HBB
    have HKA : Hid (∀ i j, i < p → j < q → (Prt.mk S2 B2 N2 cap2 O2 p q T2).get m1 i j = (Prt.mk S2 B2 N2 cap2 O2 p q T2).get m i j) := Lib.hid (fun i j hi hj => keep_get HDD.out.1 HDD.out.2.2.1 HUN.out hi hj)
    have HKB : Hid (∀ i j, i < q → j < r → (Prt.mk S3 B3 N3 cap3 O3 q r T3).get m1 i j = (Prt.mk S3 B3 N3 cap3 O3 q r T3).get m i j) := Lib.hid (fun i j hi hj => keep_get HDD.out.2.1 HDD.out.2.2.2.1 HUN.out hi hj)
    have st1 := HS1.out
    have kq1 := HKQ1.out
    go_wp2_with fail
    go_cut [78] from 56 to 78 (fun x wx => ∃ (ok2 : Bool) (m2 : Nat → Nat → Nat), x = .bool (!ok2) ∧ St L X b0 g s n u h1 m2 wx ∧ Only ((Prt.mk S1 B1 N1 cap1 O1 p r T1).blk 0 0 M D) m1 m2 ∧ (ok2 = true → ∀ i j, i < 2 * (p / 2) → j < 2 * (r / 2) → (Prt.mk S1 B1 N1 cap1 O1 p r T1).get m2 i j = if q % 2 = 1 then plusU ((Prt.mk S1 B1 N1 cap1 O1 p r T1).get m1 i j) (timesU ((Prt.mk S2 B2 N2 cap2 O2 p q T2).get m i (q - 1)) ((Prt.mk S3 B3 N3 cap3 O3 q r T3).get m (q - 1) j)) else (Prt.mk S1 B1 N1 cap1 O1 p r T1).get m1 i j) ∧ (ok2 = false → Bad p r (combo p q r rec ((Prt.mk S2 B2 N2 cap2 O2 p q T2).get m) ((Prt.mk S3 B3 N3 cap3 O3 q r T3).get m))) ∧ Kq X g W0 wx)
    case first =>
      by_cases hodd : q % 2 = 1
      · as_aux_lemma =>
        have hKq : K + 1 = q := by have := HMD.out; omega
        have gd : decide ((K : Int) < (q : Int)) = true := decide_eq_true (by omega)
        have gn : K < q := by omega
        have HKQn := Lib.hid hKq
        clear hKq
        have HCOL := Lib.hid (fun W (hst : St L X b0 g s n u h1 m1 W) => wi_col hst HOK.out.2.1 (j := K) (by show K < q; omega) hdim.out.2.2.2.1)
        have HROW := Lib.hid (fun W => wi_row HOK.out.2.2 (i := K) (w := W) (by show K < q; omega) hdim.out.2.2.2.2.2)
        dsimp only [Prt.val] at HCOL HROW
        obtain ⟨PB, hPB⟩ : ∃ P, P = (Prt.mk S3 B3 N3 cap3 O3 q r T3).at K 0 := ⟨_, rfl⟩
        obtain ⟨cq, hcq⟩ : ∃ P, P = cap3 - (O3 + K * T3) := ⟨_, rfl⟩
        rw [← hPB, ← hcq] at HROW
        have HDQ : Hid (D ≤ cq) := Lib.hid (by
          have hb := HOK.out.2.2
          have h2 : O3 + K * T3 + r ≤ N3 := hb.bound (i := K) (by show K < q; omega) hdim.out.2.2.2.2.2
          have h3 : N3 ≤ cap3 := hb.nc
          have := hdim.out
          omega)
        have hdq := HDQ.out
        have hMp := hdim.out.1
        have HC0 : Hid (0 < M ∧ 0 < D) := Lib.hid (by have := HMD.out; omega)
        have HPB := Lib.hid hPB
        clear hPB hcq
        refine wp_region_held_drew (S := fun W => W.cell? ⟨w.heap.size, 0, none⟩ = some (.pointer (some ⟨g, 0, none⟩)) ∧ W.cell? ⟨w.heap.size, 1, none⟩ = some (.int .i64 (cut : Int)) ∧ W.cell? ⟨w.heap.size + 1, 0, none⟩ = some (.int .i64 (p : Int)) ∧ W.cell? ⟨w.heap.size + 1, 1, none⟩ = some (.int .i64 (r : Int)) ∧ W.cell? ⟨w.heap.size + 1, 2, none⟩ = some (.int .i64 (T1 : Int)) ∧ W.cell? ⟨w.heap.size + 1, 3, none⟩ = some (.int .i64 (O1 : Int)) ∧ W.cell? ⟨w.heap.size + 1, 4, none⟩ = some (.slice (some ⟨S1, B1, none⟩) N1 cap1) ∧ W.cell? ⟨w.heap.size + 1 + 1, 0, none⟩ = some (.int .i64 (p : Int)) ∧ W.cell? ⟨w.heap.size + 1 + 1, 1, none⟩ = some (.int .i64 (q : Int)) ∧ W.cell? ⟨w.heap.size + 1 + 1, 2, none⟩ = some (.int .i64 (T2 : Int)) ∧ W.cell? ⟨w.heap.size + 1 + 1, 3, none⟩ = some (.int .i64 (O2 : Int)) ∧ W.cell? ⟨w.heap.size + 1 + 1, 4, none⟩ = some (.slice (some ⟨S2, B2, none⟩) N2 cap2) ∧ W.cell? ⟨w.heap.size + 1 + 1 + 1, 0, none⟩ = some (.int .i64 (q : Int)) ∧ W.cell? ⟨w.heap.size + 1 + 1 + 1, 1, none⟩ = some (.int .i64 (r : Int)) ∧ W.cell? ⟨w.heap.size + 1 + 1 + 1, 2, none⟩ = some (.int .i64 (T3 : Int)) ∧ W.cell? ⟨w.heap.size + 1 + 1 + 1, 3, none⟩ = some (.int .i64 (O3 : Int)) ∧ W.cell? ⟨w.heap.size + 1 + 1 + 1, 4, none⟩ = some (.slice (some ⟨S3, B3, none⟩) N3 cap3)) (by kernel_rfl) ?_ (fun hHeld => ?_)
        · (try dsimp only); exact HK.out _ (Kq.drew kq1)
        refine wpAnyH_take (i := 0) (oi := { dst := some 56, op := _, type := _, pos := _, after := _, guard := _ }) (v := ?v0o) rfl (by kernel_rfl) (by kernel_rfl) (by kernel_rfl) (fun _ _ _ h => h) (Or.inl ⟨by rfl, ?hy0o⟩) (by assumption) ?rest0o
        case hy0o => intro w hSw; (try dsimp only at hSw); go_simp; first | done | with_reducible rfl
        simp only [Act.put, List.setIfInBounds_toArray, List.set_cons_zero, List.set_cons_succ]
        refine wpAnyH_take (i := 1) (oi := { dst := some 57, op := _, type := _, pos := _, after := _, guard := _ }) (v := ?v1o) rfl (by kernel_rfl) (by kernel_rfl) (by kernel_rfl) (fun _ _ _ h => h) (Or.inl ⟨by rfl, ?hy1o⟩) (by assumption) ?rest1o
        case hy1o => intro w hSw; (try dsimp only at hSw); go_simp; first | done | with_reducible rfl
        simp only [Act.put, List.setIfInBounds_toArray, List.set_cons_zero, List.set_cons_succ]
        refine wpAnyH_take (i := 2) (oi := { dst := some 58, op := _, type := _, pos := _, after := _, guard := _ }) (v := ?v2o) rfl (by kernel_rfl) (by kernel_rfl) (by kernel_rfl) (fun _ _ _ h => h) (Or.inl ⟨by rfl, ?hy2o⟩) (by assumption) ?rest2o
        case hy2o => intro w hSw; (try dsimp only at hSw); go_simp; first | done | with_reducible rfl
        simp only [Act.put, List.setIfInBounds_toArray, List.set_cons_zero, List.set_cons_succ]
        refine wpAnyH_take (i := 3) (oi := { dst := some 59, op := _, type := _, pos := _, after := _, guard := _ }) (v := ?v3o) rfl (by kernel_rfl) (by kernel_rfl) (by kernel_rfl) (fun _ _ _ h => h) (Or.inl ⟨by rfl, ?hy3o⟩) (by assumption) ?rest3o
        case hy3o => intro w hSw; (try dsimp only at hSw); go_simp; first | done | with_reducible rfl
        simp only [Act.put, List.setIfInBounds_toArray, List.set_cons_zero, List.set_cons_succ]
        refine wpAnyH_take (i := 4) (oi := { dst := some 60, op := _, type := _, pos := _, after := _, guard := _ }) (v := ?v4o) rfl (by kernel_rfl) (by kernel_rfl) (by kernel_rfl) (fun _ _ _ h => h) (Or.inl ⟨by rfl, ?hy4o⟩) (by assumption) ?rest4o
        case hy4o => intro w hSw; (try dsimp only at hSw); go_simp; first | done | with_reducible rfl
        simp only [Act.put, List.setIfInBounds_toArray, List.set_cons_zero, List.set_cons_succ]
        refine wpAnyH_take (i := 5) (oi := { dst := some 61, op := _, type := _, pos := _, after := _, guard := _ }) (v := ?v5o) rfl (by kernel_rfl) (by kernel_rfl) (by kernel_rfl) (fun _ _ _ h => h) (Or.inl ⟨by rfl, ?hy5o⟩) (by assumption) ?rest5o
        case hy5o => intro w hSw; (try dsimp only at hSw); go_simp; first | done | with_reducible rfl
        simp only [Act.put, List.setIfInBounds_toArray, List.set_cons_zero, List.set_cons_succ]
        refine wpAnyH_take (i := 6) (oi := { dst := some 62, op := _, type := _, pos := _, after := _, guard := _ }) (v := ?v6o) rfl (by kernel_rfl) (by kernel_rfl) (by kernel_rfl) (fun _ _ _ h => h) (Or.inl ⟨by rfl, ?hy6o⟩) (by assumption) ?rest6o
        case hy6o => intro w hSw; (try dsimp only at hSw); go_simp; first | done | with_reducible rfl
        simp only [Act.put, List.setIfInBounds_toArray, List.set_cons_zero, List.set_cons_succ]
        refine wpAnyH_take (i := 7) (oi := { dst := some 63, op := _, type := _, pos := _, after := _, guard := _ }) (v := ?v7o) rfl (by kernel_rfl) (by kernel_rfl) (by kernel_rfl) (fun _ _ _ h => h) (Or.inl ⟨by rfl, ?hy7o⟩) (by assumption) ?rest7o
        case hy7o => intro w hSw; (try dsimp only at hSw); go_simp; first | done | with_reducible rfl
        simp only [Act.put, List.setIfInBounds_toArray, List.set_cons_zero, List.set_cons_succ]
        refine wpAnyH_take (i := 8) (oi := { dst := some 64, op := _, type := _, pos := _, after := _, guard := _ }) (v := ?v8o) rfl (by kernel_rfl) (by kernel_rfl) (by kernel_rfl) (fun _ _ _ h => h) (Or.inl ⟨by rfl, ?hy8o⟩) (by assumption) ?rest8o
        case hy8o => intro w hSw; (try dsimp only at hSw); go_simp; first | done | with_reducible rfl
        simp only [Act.put, List.setIfInBounds_toArray, List.set_cons_zero, List.set_cons_succ]
        refine wpAnyH_take (i := 10) (oi := { dst := some 66, op := _, type := _, pos := _, after := _, guard := _ }) (v := ?v10o) rfl (by kernel_rfl) (by kernel_rfl) (by kernel_rfl) (fun _ _ _ h => h) (Or.inl ⟨by rfl, ?hy10o⟩) (by assumption) ?rest10o
        case hy10o => intro w hSw; (try dsimp only at hSw); go_simp; first | done | with_reducible rfl
        simp only [Act.put, List.setIfInBounds_toArray, List.set_cons_zero, List.set_cons_succ]
        refine wpAnyH_take (i := 11) (oi := { dst := some 67, op := _, type := _, pos := _, after := _, guard := _ }) (v := ?v11o) rfl (by kernel_rfl) (by kernel_rfl) (by kernel_rfl) (fun _ _ _ h => h) (Or.inl ⟨by rfl, ?hy11o⟩) (by assumption) ?rest11o
        case hy11o => intro w hSw; (try dsimp only at hSw); go_simp; first | done | with_reducible rfl
        simp only [Act.put, List.setIfInBounds_toArray, List.set_cons_zero, List.set_cons_succ]
        refine wpAnyH_take (i := 13) (oi := { dst := some 69, op := _, type := _, pos := _, after := _, guard := _ }) (v := ?v13o) rfl (by kernel_rfl) (by kernel_rfl) (by kernel_rfl) (fun _ _ _ h => h) (Or.inl ⟨by rfl, ?hy13o⟩) (by assumption) ?rest13o
        case hy13o => intro w hSw; (try dsimp only at hSw); go_simp; first | done | with_reducible rfl
        simp only [Act.put, List.setIfInBounds_toArray, List.set_cons_zero, List.set_cons_succ]
        refine wpAnyH_take (i := 15) (oi := { dst := some 71, op := _, type := _, pos := _, after := _, guard := _ }) (v := ?v15o) rfl (by kernel_rfl) (by kernel_rfl) (by kernel_rfl) (fun _ _ _ h => h) (Or.inl ⟨by rfl, ?hy15o⟩) (by assumption) ?rest15o
        case hy15o => intro w hSw; (try dsimp only at hSw); go_simp; first | done | with_reducible rfl
        simp only [Act.put, List.setIfInBounds_toArray, List.set_cons_zero, List.set_cons_succ]
        refine wpAnyH_take (i := 16) (oi := { dst := some 72, op := _, type := _, pos := _, after := _, guard := _ }) (v := ?v16o) rfl (by kernel_rfl) (by kernel_rfl) (by kernel_rfl) (fun _ _ _ h => h) (Or.inl ⟨by rfl, ?hy16o⟩) (by assumption) ?rest16o
        case hy16o => intro w hSw; (try dsimp only at hSw); go_simp; first | done | with_reducible rfl
        simp only [Act.put, List.setIfInBounds_toArray, List.set_cons_zero, List.set_cons_succ]
        refine wpAnyH_take (i := 18) (oi := { dst := some 74, op := _, type := _, pos := _, after := _, guard := _ }) (v := ?v18o) rfl (by kernel_rfl) (by kernel_rfl) (by kernel_rfl) (fun _ _ _ h => h) (Or.inl ⟨by rfl, ?hy18o⟩) (by assumption) ?rest18o
        case hy18o => intro w hSw; (try dsimp only at hSw); go_simp; first | done | with_reducible rfl
        simp only [Act.put, List.setIfInBounds_toArray, List.set_cons_zero, List.set_cons_succ]
        have kqd := Kq.drew kq1
        have std := st1.drew
        refine wpAnyH_ready (rs := [9]) (by kernel_rfl) (by simp) ?_
        refine AllReadyH.cons rfl (fun KZ hKZ => ?_) AllReadyH.nil
        go_simp
        refine (HBC.out _).mono ?_
        rintro e x1 ⟨rfl, bz⟩
        have kqa := kqd.below bz
        have sta := std.behind bz
        clear bz
        refine hKZ.out _ _ ?_ (fun hHeld => ?_)
        · exact HK.out _ kqa
        clear hKZ KZ
        try simp only [Act.put, List.setIfInBounds_toArray, List.set_cons_zero, List.set_cons_succ]
        refine wpAnyH_ready (rs := [12]) (by kernel_rfl) (by simp) ?_
        refine AllReadyH.cons rfl (fun KZ hKZ => ?_) AllReadyH.nil
        go_simp
        refine (HCOL.out _ sta).mono ?_
        rintro e x2 ⟨d, cc, rfl, ho, bz⟩
        have kqb := kqa.below bz
        have stb := sta.behind bz
        have hoc := own_cap ho
        have hx1s : w.heap.size ≤ x1.heap.size := Nat.le_trans HKW.out.size kqa.size
        clear bz
        refine hKZ.out _ _ ?_ (fun hHeld => ?_)
        · exact HK.out _ kqb
        clear hKZ KZ
        try simp only [Act.put, List.setIfInBounds_toArray, List.set_cons_zero, List.set_cons_succ]
        have hmc : M ≤ cc := by omega
        refine wpAnyH_take (i := 14) (oi := { dst := some 70, op := _, type := _, pos := _, after := _, guard := _ }) (v := ?v14o) rfl (by kernel_rfl) (by kernel_rfl) (by kernel_rfl) (fun _ _ _ h => h) (Or.inl ⟨by rfl, ?hy14o⟩) (by assumption) ?rest14o
        case hy14o => intro w hSw; (try dsimp only at hSw); go_simp; first | done | with_reducible rfl
        simp only [Act.put, List.setIfInBounds_toArray, List.set_cons_zero, List.set_cons_succ]
        refine wpAnyH_ready (rs := [17]) (by kernel_rfl) (by simp) ?_
        refine AllReadyH.cons rfl (fun KZ hKZ => ?_) AllReadyH.nil
        go_simp
        refine (HROW.out _).mono ?_
        rintro e x3 ⟨rfl, bz⟩
        have kqc := kqb.below bz
        have stc := stb.behind bz
        have hoo := ho.below bz
        clear bz
        refine hKZ.out _ _ ?_ (fun hHeld => ?_)
        · exact HK.out _ kqc
        clear hKZ KZ
        try simp only [Act.put, List.setIfInBounds_toArray, List.set_cons_zero, List.set_cons_succ]
        refine wpAnyH_take (i := 19) (oi := { dst := some 75, op := _, type := _, pos := _, after := _, guard := _ }) (v := ?v19o) rfl (by kernel_rfl) (by kernel_rfl) (by kernel_rfl) (fun _ _ _ h => h) (Or.inl ⟨by rfl, ?hy19o⟩) (by assumption) ?rest19o
        case hy19o => intro w hSw; (try dsimp only at hSw); go_simp; first | done | with_reducible rfl
        simp only [Act.put, List.setIfInBounds_toArray, List.set_cons_zero, List.set_cons_succ]
        have hx : ∀ m' W', St L X b0 g s n u h1 m' W' → Only (Prt.mk S1 B1 N1 cap1 Qc M D T1) m1 m' → Kq X g x3 W' → ∀ i, i < M → W'.cell? ⟨d, 0 + i, none⟩ = some (.int .u64 ((Prt.mk S2 B2 N2 cap2 O2 p q T2).get m1 i K : Int)) := fun m' W' _ _ hk i hi => by
          have hl : i < (rowV p fun i => (Prt.mk S2 B2 N2 cap2 O2 p q T2).get m1 i K).length := by rw [rowV_length]; omega
          have hc := hoo.cell (j := i) (by rw [zn_length]; exact hl)
          rw [zn_at hl, rowV_lim _ (by omega)] at hc
          have hh := hk.keep d (by have := kqc.size; have := (own_cap hoo).2.2; omega) (fun hX => by have := HFR.out.1 _ hX; omega) (by have := HFR.out; omega)
          rw [Nat.zero_add]
          have : W'.cell? ⟨d, i, none⟩ = x3.cell? ⟨d, i, none⟩ := by simp only [World.cell?]; rw [hh]
          rw [this]; exact hc
        have hy : ∀ m' W', St L X b0 g s n u h1 m' W' → Only (Prt.mk S1 B1 N1 cap1 Qc M D T1) m1 m' → Kq X g x3 W' → Arg W' (.slice (some ⟨S3, PB, none⟩) D cq) (rowV D fun j => (Prt.mk S3 B3 N3 cap3 O3 q r T3).get m1 K j) := fun m' W' hst hon hk => by
          have hlv := HOK.out.2.2.lv
          have hat : ∀ t, (Prt.mk S3 B3 N3 cap3 O3 q r T3).at K t = PB + t := fun t => by rw [HPB.out]; show B3 + (O3 + K * T3 + t) = B3 + (O3 + K * T3 + 0) + t; omega
          refine arg_row (hst.me.lt S3 _ (hlv K 0 (by show K < q; omega) (by show 0 < r; have := hdim.out; omega))) HDQ.out fun t ht => ?_
          have hlt : t < r := by have := hdim.out; omega
          have hcell := hst.cell (hlv K t (by show K < q; omega) hlt)
          rw [hat] at hcell
          have hme : m' S3 (PB + t) = (Prt.mk S3 B3 N3 cap3 O3 q r T3).get m1 K t := by
            have e9 : (Prt.mk S3 B3 N3 cap3 O3 q r T3).get m' K t = (Prt.mk S3 B3 N3 cap3 O3 q r T3).get m1 K t := hon.get (c := (Prt.mk S1 B1 N1 cap1 Qc M D T1)) (by rw [HE1.out]; exact HDD.out.2.1.blk2 (by show 0 + M ≤ p; have := hdim.out; omega) (by show 0 + D ≤ r; have := hdim.out; omega)) (by show K < q; omega) hlt
            unfold Prt.get at e9
            rw [hat] at e9
            rw [show (Prt.mk S3 B3 N3 cap3 O3 q r T3).get m1 K t = m1 S3 (PB + t) by unfold Prt.get; rw [hat]]
            exact e9
          rw [← hme]
          exact hcell
        refine wpAnyH_ready (rs := [20]) (by kernel_rfl) (by simp) ?_
        refine AllReadyH.cons rfl (fun KZ hKZ => ?_) AllReadyH.nil
        go_simp
        refine (wi_outer0 (xf := fun i => (Prt.mk S2 B2 N2 cap2 O2 p q T2).get m1 i K) (yf := fun j => (Prt.mk S3 B3 N3 cap3 O3 q r T3).get m1 K j) stc (by rw [HE1.out]; exact HOK.out.1.blk (by show 0 + M ≤ p; have := hdim.out; omega) (by show 0 + D ≤ r; have := hdim.out; omega) hdim.out.2.2.2.1 hdim.out.2.2.2.2.2) HC0.out.1 HC0.out.2 HXS.out.1 (Nat.le_refl _) (fun i => stc.me.lw _ _) (fun j => stc.me.lw _ _) hx hy).mono ?_
        rintro e x4 ⟨ok2, m2, rfl, t1, t2, t3, t4, t5⟩
        have kq5 := kqc.trans t5
        refine hKZ.out _ _ ?_ (fun hHeld => ?_)
        · exact HK.out _ kq5
        clear hKZ KZ
        try simp only [Act.put, List.setIfInBounds_toArray, List.set_cons_zero, List.set_cons_succ]
        refine wpAnyH_take (i := 21) (oi := { dst := some 77, op := _, type := _, pos := _, after := _, guard := _ }) (v := ?v21o) rfl (by kernel_rfl) (by kernel_rfl) (by kernel_rfl) (fun _ _ _ h => h) (Or.inl ⟨by rfl, ?hy21o⟩) (by assumption) ?rest21o
        case hy21o => intro w hSw; (try dsimp only at hSw); go_simp; first | done | with_reducible rfl
        simp only [Act.put, List.setIfInBounds_toArray, List.set_cons_zero, List.set_cons_succ]
        refine wpAnyH_take (i := 22) (oi := { dst := some 78, op := _, type := _, pos := _, after := _, guard := _ }) (v := ?v22o) rfl (by kernel_rfl) (by kernel_rfl) (by kernel_rfl) (fun _ _ _ h => h) (Or.inl ⟨by rfl, ?hy22o⟩) (by assumption) ?rest22o
        case hy22o => intro w hSw; (try dsimp only at hSw); go_simp; first | done | with_reducible rfl
        simp only [Act.put, List.setIfInBounds_toArray, List.set_cons_zero, List.set_cons_succ]
        refine wpAnyH_done (by kernel_rfl) ?_ _
        go_wp2_with fail
        go_meet
        have hKq := HKQn.out
        refine ⟨ok2, m2, rfl, t1, by rw [← HE1.out]; exact t2, fun hk i j hi hj => ?_, fun hk => ?_, kq5⟩
        · have h9 := t3 hk i j (by have := HMD.out; omega) (by have := HMD.out; omega)
          rw [HE1.out, Prt.blk_get, Prt.blk_get, Nat.zero_add, Nat.zero_add, HKA.out i K (by have := HMD.out; omega) (by omega), HKB.out K j (by omega) (by have := HMD.out; omega)] at h9
          rw [if_pos hodd, h9, show q - 1 = K by omega]
        · obtain ⟨i, j, hi, hj, hb⟩ := t4 hk
          have hi' : i < M := hi
          have hj' : j < D := hj
          rw [HE1.out, Prt.blk_get, Nat.zero_add, Nat.zero_add, HKA.out i K (by have := HMD.out; omega) (by omega), HKB.out K j (by omega) (by have := HMD.out; omega), HV1.out i j (by have := HMD.out; omega) (by have := HMD.out; omega)] at hb
          refine ⟨i, j, by have := HMD.out; omega, by have := HMD.out; omega, ?_⟩
          unfold combo
          rw [if_pos ⟨by have := HMD.out; omega, by have := HMD.out; omega⟩, if_pos hodd, show q - 1 = K by omega]
          exact hb
      · as_aux_lemma =>
        have hKq : K = q := by have := HMD.out; omega
        have gd : decide ((K : Int) < (q : Int)) = false := decide_eq_false (by omega)
        have gn : ¬ K < q := by omega
        clear hKq
        refine wp_region_held_drew (S := fun W => W.cell? ⟨w.heap.size, 0, none⟩ = some (.pointer (some ⟨g, 0, none⟩)) ∧ W.cell? ⟨w.heap.size, 1, none⟩ = some (.int .i64 (cut : Int)) ∧ W.cell? ⟨w.heap.size + 1, 0, none⟩ = some (.int .i64 (p : Int)) ∧ W.cell? ⟨w.heap.size + 1, 1, none⟩ = some (.int .i64 (r : Int)) ∧ W.cell? ⟨w.heap.size + 1, 2, none⟩ = some (.int .i64 (T1 : Int)) ∧ W.cell? ⟨w.heap.size + 1, 3, none⟩ = some (.int .i64 (O1 : Int)) ∧ W.cell? ⟨w.heap.size + 1, 4, none⟩ = some (.slice (some ⟨S1, B1, none⟩) N1 cap1) ∧ W.cell? ⟨w.heap.size + 1 + 1, 0, none⟩ = some (.int .i64 (p : Int)) ∧ W.cell? ⟨w.heap.size + 1 + 1, 1, none⟩ = some (.int .i64 (q : Int)) ∧ W.cell? ⟨w.heap.size + 1 + 1, 2, none⟩ = some (.int .i64 (T2 : Int)) ∧ W.cell? ⟨w.heap.size + 1 + 1, 3, none⟩ = some (.int .i64 (O2 : Int)) ∧ W.cell? ⟨w.heap.size + 1 + 1, 4, none⟩ = some (.slice (some ⟨S2, B2, none⟩) N2 cap2) ∧ W.cell? ⟨w.heap.size + 1 + 1 + 1, 0, none⟩ = some (.int .i64 (q : Int)) ∧ W.cell? ⟨w.heap.size + 1 + 1 + 1, 1, none⟩ = some (.int .i64 (r : Int)) ∧ W.cell? ⟨w.heap.size + 1 + 1 + 1, 2, none⟩ = some (.int .i64 (T3 : Int)) ∧ W.cell? ⟨w.heap.size + 1 + 1 + 1, 3, none⟩ = some (.int .i64 (O3 : Int)) ∧ W.cell? ⟨w.heap.size + 1 + 1 + 1, 4, none⟩ = some (.slice (some ⟨S3, B3, none⟩) N3 cap3)) (by kernel_rfl) ?_ (fun hHeld => ?_)
        · (try dsimp only); exact HK.out _ (Kq.drew kq1)
        refine wpAnyH_take (i := 0) (oi := { dst := some 56, op := _, type := _, pos := _, after := _, guard := _ }) (v := ?v0e) rfl (by kernel_rfl) (by kernel_rfl) (by kernel_rfl) (fun _ _ _ h => h) (Or.inl ⟨by rfl, ?hy0e⟩) (by assumption) ?rest0e
        case hy0e => intro w hSw; (try dsimp only at hSw); go_simp; first | done | with_reducible rfl
        simp only [Act.put, List.setIfInBounds_toArray, List.set_cons_zero, List.set_cons_succ]
        refine wpAnyH_take (i := 1) (oi := { dst := some 57, op := _, type := _, pos := _, after := _, guard := _ }) (v := ?v1e) rfl (by kernel_rfl) (by kernel_rfl) (by kernel_rfl) (fun _ _ _ h => h) (Or.inl ⟨by rfl, ?hy1e⟩) (by assumption) ?rest1e
        case hy1e => intro w hSw; (try dsimp only at hSw); go_simp; first | done | with_reducible rfl
        simp only [Act.put, List.setIfInBounds_toArray, List.set_cons_zero, List.set_cons_succ]
        refine wpAnyH_take (i := 2) (oi := { dst := some 58, op := _, type := _, pos := _, after := _, guard := _ }) (v := ?v2e) rfl (by kernel_rfl) (by kernel_rfl) (by kernel_rfl) (fun _ _ _ h => h) (Or.inl ⟨by rfl, ?hy2e⟩) (by assumption) ?rest2e
        case hy2e => intro w hSw; (try dsimp only at hSw); go_simp; first | done | with_reducible rfl
        simp only [Act.put, List.setIfInBounds_toArray, List.set_cons_zero, List.set_cons_succ]
        refine wpAnyH_take (i := 3) (oi := { dst := some 59, op := _, type := _, pos := _, after := _, guard := _ }) (v := ?v3e) rfl (by kernel_rfl) (by kernel_rfl) (by kernel_rfl) (fun _ _ _ h => h) (Or.inl ⟨by rfl, ?hy3e⟩) (by assumption) ?rest3e
        case hy3e => intro w hSw; (try dsimp only at hSw); go_simp; first | done | with_reducible rfl
        simp only [Act.put, List.setIfInBounds_toArray, List.set_cons_zero, List.set_cons_succ]
        refine wpAnyH_take (i := 4) (oi := { dst := some 60, op := _, type := _, pos := _, after := _, guard := _ }) (v := ?v4e) rfl (by kernel_rfl) (by kernel_rfl) (by kernel_rfl) (fun _ _ _ h => h) (Or.inl ⟨by rfl, ?hy4e⟩) (by assumption) ?rest4e
        case hy4e => intro w hSw; (try dsimp only at hSw); go_simp; first | done | with_reducible rfl
        simp only [Act.put, List.setIfInBounds_toArray, List.set_cons_zero, List.set_cons_succ]
        refine wpAnyH_take (i := 5) (oi := { dst := some 61, op := _, type := _, pos := _, after := _, guard := _ }) (v := ?v5e) rfl (by kernel_rfl) (by kernel_rfl) (by kernel_rfl) (fun _ _ _ h => h) (Or.inl ⟨by rfl, ?hy5e⟩) (by assumption) ?rest5e
        case hy5e => intro w hSw; (try dsimp only at hSw); go_simp; first | done | with_reducible rfl
        simp only [Act.put, List.setIfInBounds_toArray, List.set_cons_zero, List.set_cons_succ]
        refine wpAnyH_take (i := 6) (oi := { dst := some 62, op := _, type := _, pos := _, after := _, guard := _ }) (v := undef) rfl (by kernel_rfl) (by kernel_rfl) (by kernel_rfl) (fun _ _ _ h => h) (Or.inr ⟨by rfl, rfl⟩) (by assumption) ?rest6e
        simp only [Act.put, List.setIfInBounds_toArray, List.set_cons_zero, List.set_cons_succ]
        refine wpAnyH_take (i := 7) (oi := { dst := some 63, op := _, type := _, pos := _, after := _, guard := _ }) (v := undef) rfl (by kernel_rfl) (by kernel_rfl) (by kernel_rfl) (fun _ _ _ h => h) (Or.inr ⟨by rfl, rfl⟩) (by assumption) ?rest7e
        simp only [Act.put, List.setIfInBounds_toArray, List.set_cons_zero, List.set_cons_succ]
        refine wpAnyH_take (i := 8) (oi := { dst := some 64, op := _, type := _, pos := _, after := _, guard := _ }) (v := undef) rfl (by kernel_rfl) (by kernel_rfl) (by kernel_rfl) (fun _ _ _ h => h) (Or.inr ⟨by rfl, rfl⟩) (by assumption) ?rest8e
        simp only [Act.put, List.setIfInBounds_toArray, List.set_cons_zero, List.set_cons_succ]
        refine wpAnyH_take (i := 9) (oi := { dst := some 65, op := _, type := _, pos := _, after := _, guard := _ }) (v := undef) rfl (by kernel_rfl) (by kernel_rfl) (by kernel_rfl) (fun _ _ _ h => h) (Or.inr ⟨by rfl, rfl⟩) (by assumption) ?rest9e
        simp only [Act.put, List.setIfInBounds_toArray, List.set_cons_zero, List.set_cons_succ]
        refine wpAnyH_take (i := 10) (oi := { dst := some 66, op := _, type := _, pos := _, after := _, guard := _ }) (v := undef) rfl (by kernel_rfl) (by kernel_rfl) (by kernel_rfl) (fun _ _ _ h => h) (Or.inr ⟨by rfl, rfl⟩) (by assumption) ?rest10e
        simp only [Act.put, List.setIfInBounds_toArray, List.set_cons_zero, List.set_cons_succ]
        refine wpAnyH_take (i := 11) (oi := { dst := some 67, op := _, type := _, pos := _, after := _, guard := _ }) (v := undef) rfl (by kernel_rfl) (by kernel_rfl) (by kernel_rfl) (fun _ _ _ h => h) (Or.inr ⟨by rfl, rfl⟩) (by assumption) ?rest11e
        simp only [Act.put, List.setIfInBounds_toArray, List.set_cons_zero, List.set_cons_succ]
        refine wpAnyH_take (i := 12) (oi := { dst := some 68, op := _, type := _, pos := _, after := _, guard := _ }) (v := undef) rfl (by kernel_rfl) (by kernel_rfl) (by kernel_rfl) (fun _ _ _ h => h) (Or.inr ⟨by rfl, rfl⟩) (by assumption) ?rest12e
        simp only [Act.put, List.setIfInBounds_toArray, List.set_cons_zero, List.set_cons_succ]
        refine wpAnyH_take (i := 13) (oi := { dst := some 69, op := _, type := _, pos := _, after := _, guard := _ }) (v := undef) rfl (by kernel_rfl) (by kernel_rfl) (by kernel_rfl) (fun _ _ _ h => h) (Or.inr ⟨by rfl, rfl⟩) (by assumption) ?rest13e
        simp only [Act.put, List.setIfInBounds_toArray, List.set_cons_zero, List.set_cons_succ]
        refine wpAnyH_take (i := 14) (oi := { dst := some 70, op := _, type := _, pos := _, after := _, guard := _ }) (v := undef) rfl (by kernel_rfl) (by kernel_rfl) (by kernel_rfl) (fun _ _ _ h => h) (Or.inr ⟨by rfl, rfl⟩) (by assumption) ?rest14e
        simp only [Act.put, List.setIfInBounds_toArray, List.set_cons_zero, List.set_cons_succ]
        refine wpAnyH_take (i := 15) (oi := { dst := some 71, op := _, type := _, pos := _, after := _, guard := _ }) (v := undef) rfl (by kernel_rfl) (by kernel_rfl) (by kernel_rfl) (fun _ _ _ h => h) (Or.inr ⟨by rfl, rfl⟩) (by assumption) ?rest15e
        simp only [Act.put, List.setIfInBounds_toArray, List.set_cons_zero, List.set_cons_succ]
        refine wpAnyH_take (i := 16) (oi := { dst := some 72, op := _, type := _, pos := _, after := _, guard := _ }) (v := undef) rfl (by kernel_rfl) (by kernel_rfl) (by kernel_rfl) (fun _ _ _ h => h) (Or.inr ⟨by rfl, rfl⟩) (by assumption) ?rest16e
        simp only [Act.put, List.setIfInBounds_toArray, List.set_cons_zero, List.set_cons_succ]
        refine wpAnyH_take (i := 17) (oi := { dst := some 73, op := _, type := _, pos := _, after := _, guard := _ }) (v := undef) rfl (by kernel_rfl) (by kernel_rfl) (by kernel_rfl) (fun _ _ _ h => h) (Or.inr ⟨by rfl, rfl⟩) (by assumption) ?rest17e
        simp only [Act.put, List.setIfInBounds_toArray, List.set_cons_zero, List.set_cons_succ]
        refine wpAnyH_take (i := 18) (oi := { dst := some 74, op := _, type := _, pos := _, after := _, guard := _ }) (v := undef) rfl (by kernel_rfl) (by kernel_rfl) (by kernel_rfl) (fun _ _ _ h => h) (Or.inr ⟨by rfl, rfl⟩) (by assumption) ?rest18e
        simp only [Act.put, List.setIfInBounds_toArray, List.set_cons_zero, List.set_cons_succ]
        refine wpAnyH_take (i := 19) (oi := { dst := some 75, op := _, type := _, pos := _, after := _, guard := _ }) (v := undef) rfl (by kernel_rfl) (by kernel_rfl) (by kernel_rfl) (fun _ _ _ h => h) (Or.inr ⟨by rfl, rfl⟩) (by assumption) ?rest19e
        simp only [Act.put, List.setIfInBounds_toArray, List.set_cons_zero, List.set_cons_succ]
        refine wpAnyH_take (i := 20) (oi := { dst := some 76, op := _, type := _, pos := _, after := _, guard := _ }) (v := undef) rfl (by kernel_rfl) (by kernel_rfl) (by kernel_rfl) (fun _ _ _ h => h) (Or.inr ⟨by rfl, rfl⟩) (by assumption) ?rest20e
        simp only [Act.put, List.setIfInBounds_toArray, List.set_cons_zero, List.set_cons_succ]
        refine wpAnyH_take (i := 21) (oi := { dst := some 77, op := _, type := _, pos := _, after := _, guard := _ }) (v := undef) rfl (by kernel_rfl) (by kernel_rfl) (by kernel_rfl) (fun _ _ _ h => h) (Or.inr ⟨by rfl, rfl⟩) (by assumption) ?rest21e
        simp only [Act.put, List.setIfInBounds_toArray, List.set_cons_zero, List.set_cons_succ]
        refine wpAnyH_take (i := 22) (oi := { dst := some 78, op := _, type := _, pos := _, after := _, guard := _ }) (v := ?v22e) rfl (by kernel_rfl) (by kernel_rfl) (by kernel_rfl) (fun _ _ _ h => h) (Or.inl ⟨by rfl, ?hy22e⟩) (by assumption) ?rest22e
        case hy22e => intro w hSw; (try dsimp only at hSw); go_simp; first | done | with_reducible rfl
        simp only [Act.put, List.setIfInBounds_toArray, List.set_cons_zero, List.set_cons_succ]
        refine wpAnyH_done (by kernel_rfl) ?_ _
        go_wp2_with fail
        go_meet
        exact ⟨true, m1, rfl, st1.drew, Only.refl _ _, fun _ i j _ _ => by rw [if_neg hodd], (fun h => by cases h), Kq.drew kq1⟩
    obtain ⟨ok2, m2, rfl, t1, t2, t3, t4, kq2⟩ := hcut
    obtain ⟨W3, rfl⟩ : ∃ wo, wo = wc := ⟨_, rfl⟩
    have HUN2 : Hid (∀ S o, ¬ (Prt.mk S1 B1 N1 cap1 O1 p r T1).has S o → ¬ (S = s ∧ u ≤ o) → m2 S o = m S o) := Lib.hid (fun S o hc hsu => (t2 S o (fun hh => hc (blk_has hh (by have := hdim.out; show 0 + M ≤ p; omega) (by have := hdim.out; show 0 + D ≤ r; omega)))).trans (HUN.out S o hc hsu))
    clear st1 kq1
    cases ok2
    · as_aux_lemma =>
      have HB := Lib.hid (t4 rfl)
      have HT1 := Lib.hid t1
      have HKQ := Lib.hid (HKW.out.trans kq2)
      clear t1 t2 t3 t4 kq2
      go_wp2
      exact HPH.out false m2 h1 _ ⟨HT1.out, HUN2.out, (fun h => by cases h), fun _ => HB.out, HUP.out.1, HUP.out.2, HKQ.out⟩
    · have HV2 := Lib.hid (t3 rfl)
      have HT1 := Lib.hid t1
      have HT2 := Lib.hid t2
      have HKQ2 := Lib.hid kq2
      clear t1 t2 t3 t4 kq2 HBC HKA HKB HS1 HKQ1
      obtain ⟨RD, hRD⟩ : ∃ P, P = r - D := ⟨_, rfl⟩
      obtain ⟨PM, hPM⟩ : ∃ P, P = p - M := ⟨_, rfl⟩
      have HRM : Hid (D + RD = r ∧ M + PM = p) := Lib.hid (by have := hdim.out; omega)
      have z1 : IntKind.i64.wrap ((r : Int) - (D : Int)) = (RD : Int) := by
        have := hdim.out
        rw [show (r : Int) - (D : Int) = (RD : Int) by omega]
        exact IntWalk.i64_in _ (by omega)
      have z2 : IntKind.i64.wrap ((p : Int) - (M : Int)) = (PM : Int) := by
        have := hdim.out
        rw [show (p : Int) - (M : Int) = (PM : Int) by omega]
        exact IntWalk.i64_in _ (by omega)
      clear hRD hPM
      have dm := hdim.out
      have rm := HRM.out
      have o1 := HOK.out.1
      have o2 := HOK.out.2.1
      have o3 := HOK.out.2.2
      have x1 := o1.blk (i := 0) (j := D) (r := M) (c := RD) (by show 0 + M ≤ p; omega) (by show D + RD ≤ r; omega) dm.2.2.2.1 dm.2.2.2.2.2
      have x2 := o2.blk (i := 0) (j := 0) (r := M) (c := q) (by show 0 + M ≤ p; omega) (by show 0 + q ≤ q; omega) dm.2.2.2.1 dm.2.2.2.2.1
      have x3 := o3.blk (i := 0) (j := D) (r := q) (c := RD) (by show 0 + q ≤ q; omega) (by show D + RD ≤ r; omega) dm.2.2.2.2.1 dm.2.2.2.2.2
      have x4 := o1.blk (i := M) (j := 0) (r := PM) (c := r) (by show M + PM ≤ p; omega) (by show 0 + r ≤ r; omega) dm.2.2.2.1 dm.2.2.2.2.2
      have x5 := o2.blk (i := M) (j := 0) (r := PM) (c := q) (by show M + PM ≤ p; omega) (by show 0 + q ≤ q; omega) dm.2.2.2.1 dm.2.2.2.2.1
      have y1 := HDD.out.1.blk (i := 0) (j := 0) (r := M) (c := q) (by show 0 + M ≤ p; omega) (by show 0 + q ≤ q; omega)
      have y2 := HDD.out.2.1.blk (i := 0) (j := D) (r := q) (c := RD) (by show 0 + q ≤ q; omega) (by show D + RD ≤ r; omega)
      have y3 := HDD.out.1.blk (i := M) (j := 0) (r := PM) (c := q) (by show M + PM ≤ p; omega) (by show 0 + q ≤ q; omega)
      have HB1 := Lib.hid (fun W => wi_blk (i := 0) (j := D) (r := M) (c := RD) (w := W) o1 (by show 0 + M ≤ p; omega) (by show D + RD ≤ r; omega) dm.2.2.2.1 dm.2.2.2.2.2)
      have HB2 := Lib.hid (fun W => wi_blk (i := 0) (j := 0) (r := M) (c := q) (w := W) o2 (by show 0 + M ≤ p; omega) (by show 0 + q ≤ q; omega) dm.2.2.2.1 dm.2.2.2.2.1)
      have HB3 := Lib.hid (fun W => wi_blk (i := 0) (j := D) (r := q) (c := RD) (w := W) o3 (by show 0 + q ≤ q; omega) (by show D + RD ≤ r; omega) dm.2.2.2.2.1 dm.2.2.2.2.2)
      have HB4 := Lib.hid (fun W => wi_blk (i := M) (j := 0) (r := PM) (c := r) (w := W) o1 (by show M + PM ≤ p; omega) (by show 0 + r ≤ r; omega) dm.2.2.2.1 dm.2.2.2.2.2)
      have HB5 := Lib.hid (fun W => wi_blk (i := M) (j := 0) (r := PM) (c := q) (w := W) o2 (by show M + PM ≤ p; omega) (by show 0 + q ≤ q; omega) dm.2.2.2.1 dm.2.2.2.2.1)
      obtain ⟨Q1, hQ1⟩ : ∃ Q, Q = O1 + 0 * T1 + D := ⟨_, rfl⟩
      obtain ⟨Q2, hQ2⟩ : ∃ Q, Q = O2 + 0 * T2 + 0 := ⟨_, rfl⟩
      obtain ⟨Q3, hQ3⟩ : ∃ Q, Q = O3 + 0 * T3 + D := ⟨_, rfl⟩
      obtain ⟨Q4, hQ4⟩ : ∃ Q, Q = O1 + M * T1 + 0 := ⟨_, rfl⟩
      obtain ⟨Q5, hQ5⟩ : ∃ Q, Q = O2 + M * T2 + 0 := ⟨_, rfl⟩
      have v1 : (Prt.mk S1 B1 N1 cap1 O1 p r T1).blk 0 D M RD = (Prt.mk S1 B1 N1 cap1 Q1 M RD T1) := by rw [hQ1]; rfl
      have v2 : (Prt.mk S2 B2 N2 cap2 O2 p q T2).blk 0 0 M q = (Prt.mk S2 B2 N2 cap2 Q2 M q T2) := by rw [hQ2]; rfl
      have v3 : (Prt.mk S3 B3 N3 cap3 O3 q r T3).blk 0 D q RD = (Prt.mk S3 B3 N3 cap3 Q3 q RD T3) := by rw [hQ3]; rfl
      have v4 : (Prt.mk S1 B1 N1 cap1 O1 p r T1).blk M 0 PM r = (Prt.mk S1 B1 N1 cap1 Q4 PM r T1) := by rw [hQ4]; rfl
      have v5 : (Prt.mk S2 B2 N2 cap2 O2 p q T2).blk M 0 PM q = (Prt.mk S2 B2 N2 cap2 Q5 PM q T2) := by rw [hQ5]; rfl
      rw [v1] at HB1
      rw [v2] at HB2
      rw [v3] at HB3
      rw [v4] at HB4
      rw [v5] at HB5
      dsimp only [Prt.val] at HB1 HB2 HB3 HB4 HB5
      simp only [Int.natCast_zero] at HB1 HB2 HB3 HB4 HB5
      have HD1 := Lib.hid (fun W (hst : St L X b0 g s n u h1 m2 W) => wi_dots0 hst (by rw [← v1]; exact x1) (by rw [← v2]; exact x2) (by rw [← v3]; exact x3) dm.2.2.2.2.1 HXS.out.1
        (by rw [← v2, ← v1]; exact y1.blk2 (by show 0 + M ≤ p; omega) (by show D + RD ≤ r; omega)) (by rw [← v3, ← v1]; exact y2.blk2 (by show 0 + M ≤ p; omega) (by show D + RD ≤ r; omega)))
      have HD2 := Lib.hid (fun W m' (hst : St L X b0 g s n u h1 m' W) => wi_dots0 hst (by rw [← v4]; exact x4) (by rw [← v5]; exact x5) o3 dm.2.2.2.2.1 HXS.out.1
        (by rw [← v5, ← v4]; exact y3.blk2 (by show M + PM ≤ p; omega) (by show 0 + r ≤ r; omega)) (by rw [← v4]; exact HDD.out.2.1.blk2 (by show M + PM ≤ p; omega) (by show 0 + r ≤ r; omega)))
      rw [← v1, ← v2, ← v3] at HD1
      rw [← v4, ← v5] at HD2
      have d11 : Dis ((Prt.mk S1 B1 N1 cap1 O1 p r T1).blk 0 0 M D) ((Prt.mk S1 B1 N1 cap1 O1 p r T1).blk 0 D M RD) := blk_dis o1 (by show 0 + D ≤ r; omega) (by show D + RD ≤ r; omega) (by omega)
      have d12 : Dis ((Prt.mk S1 B1 N1 cap1 O1 p r T1).blk 0 0 M r) ((Prt.mk S1 B1 N1 cap1 O1 p r T1).blk M 0 PM r) := blk_dis o1 (by show 0 + r ≤ r; omega) (by show 0 + r ≤ r; omega) (by omega)
      have HDC := Lib.hid (And.intro d11 d12)
      clear x1 x2 x3 x4 x5 y1 y2 y3 hQ1 hQ2 hQ3 hQ4 hQ5 v1 v2 v3 v4 v5 o1 o2 o3 dm rm d11 d12
      have st2 := HT1.out
      have kq2 := HKQ2.out
      have hfin : ∀ m3 m4 : Nat → Nat → Nat, Only ((Prt.mk S1 B1 N1 cap1 O1 p r T1).blk 0 D M RD) m2 m3 → Only ((Prt.mk S1 B1 N1 cap1 O1 p r T1).blk M 0 PM r) m3 m4 → (∀ S o, ¬ (Prt.mk S1 B1 N1 cap1 O1 p r T1).has S o → ¬ (S = s ∧ u ≤ o) → m3 S o = m S o) ∧ (∀ S o, ¬ (Prt.mk S1 B1 N1 cap1 O1 p r T1).has S o → ¬ (S = s ∧ u ≤ o) → m4 S o = m S o) ∧
          (∀ i j, i < M → j < RD → dotN (((Prt.mk S2 B2 N2 cap2 O2 p q T2).blk 0 0 M q).get m2) (((Prt.mk S3 B3 N3 cap3 O3 q r T3).blk 0 D q RD).get m2) q i j = dotN ((Prt.mk S2 B2 N2 cap2 O2 p q T2).get m) ((Prt.mk S3 B3 N3 cap3 O3 q r T3).get m) q i (D + j)) ∧ (∀ i j, i < PM → j < r → dotN (((Prt.mk S2 B2 N2 cap2 O2 p q T2).blk M 0 PM q).get m3) ((Prt.mk S3 B3 N3 cap3 O3 q r T3).get m3) q i j = dotN ((Prt.mk S2 B2 N2 cap2 O2 p q T2).get m) ((Prt.mk S3 B3 N3 cap3 O3 q r T3).get m) q (M + i) j) := fun m3 m4 k3 k4 => by
        have dm := hdim.out
        have rm := HRM.out
        have un3 : ∀ S o, ¬ (Prt.mk S1 B1 N1 cap1 O1 p r T1).has S o → ¬ (S = s ∧ u ≤ o) → m3 S o = m S o := fun S o hc hsu => (k3 S o (fun hh => hc (blk_has hh (by show 0 + M ≤ p; omega) (by show D + RD ≤ r; omega)))).trans (HUN2.out S o hc hsu)
        refine ⟨un3, fun S o hc hsu => (k4 S o (fun hh => hc (blk_has hh (by show M + PM ≤ p; omega) (by show 0 + r ≤ r; omega)))).trans (un3 S o hc hsu), fun i j hi hj => dot_rows (fun t ht => ?_) (fun t ht => ?_), fun i j hi hj => dot_rows (fun t ht => ?_) (fun t ht => ?_)⟩
        · rw [Prt.blk_get, Nat.zero_add, Nat.zero_add]; exact keep_get HDD.out.1 HDD.out.2.2.1 HUN2.out (by show i < p; omega) ht
        · rw [Prt.blk_get, Nat.zero_add]; exact keep_get HDD.out.2.1 HDD.out.2.2.2.1 HUN2.out ht (by show D + j < r; omega)
        · rw [Prt.blk_get, Nat.zero_add]; exact keep_get HDD.out.1 HDD.out.2.2.1 un3 (by show M + i < p; omega) ht
        · exact keep_get HDD.out.2.1 HDD.out.2.2.2.1 un3 ht hj
      have HFIN := Lib.hid hfin
      clear hfin
      go_upto_region 8 with (fail)
      refine wp_region_held_drew (S := fun W => W.cell? ⟨w.heap.size, 0, none⟩ = some (.pointer (some ⟨g, 0, none⟩)) ∧ W.cell? ⟨w.heap.size, 1, none⟩ = some (.int .i64 (cut : Int)) ∧ W.cell? ⟨w.heap.size + 1, 0, none⟩ = some (.int .i64 (p : Int)) ∧ W.cell? ⟨w.heap.size + 1, 1, none⟩ = some (.int .i64 (r : Int)) ∧ W.cell? ⟨w.heap.size + 1, 2, none⟩ = some (.int .i64 (T1 : Int)) ∧ W.cell? ⟨w.heap.size + 1, 3, none⟩ = some (.int .i64 (O1 : Int)) ∧ W.cell? ⟨w.heap.size + 1, 4, none⟩ = some (.slice (some ⟨S1, B1, none⟩) N1 cap1) ∧ W.cell? ⟨w.heap.size + 1 + 1, 0, none⟩ = some (.int .i64 (p : Int)) ∧ W.cell? ⟨w.heap.size + 1 + 1, 1, none⟩ = some (.int .i64 (q : Int)) ∧ W.cell? ⟨w.heap.size + 1 + 1, 2, none⟩ = some (.int .i64 (T2 : Int)) ∧ W.cell? ⟨w.heap.size + 1 + 1, 3, none⟩ = some (.int .i64 (O2 : Int)) ∧ W.cell? ⟨w.heap.size + 1 + 1, 4, none⟩ = some (.slice (some ⟨S2, B2, none⟩) N2 cap2) ∧ W.cell? ⟨w.heap.size + 1 + 1 + 1, 0, none⟩ = some (.int .i64 (q : Int)) ∧ W.cell? ⟨w.heap.size + 1 + 1 + 1, 1, none⟩ = some (.int .i64 (r : Int)) ∧ W.cell? ⟨w.heap.size + 1 + 1 + 1, 2, none⟩ = some (.int .i64 (T3 : Int)) ∧ W.cell? ⟨w.heap.size + 1 + 1 + 1, 3, none⟩ = some (.int .i64 (O3 : Int)) ∧ W.cell? ⟨w.heap.size + 1 + 1 + 1, 4, none⟩ = some (.slice (some ⟨S3, B3, none⟩) N3 cap3)) (by kernel_rfl) ?_ (fun hHeld => ?_)
      · (try dsimp only); exact HK.out _ (Kq.drew kq2)
      refine wpAnyH_take (i := 0) (oi := { dst := some 79, op := _, type := _, pos := _, after := _, guard := _ }) (v := ?v0a) rfl (by kernel_rfl) (by kernel_rfl) (by kernel_rfl) (fun _ _ _ h => h) (Or.inl ⟨by rfl, ?hy0a⟩) (by assumption) ?rest0a
      case hy0a => intro w hSw; (try dsimp only at hSw); go_simp; first | done | with_reducible rfl
      simp only [Act.put, List.setIfInBounds_toArray, List.set_cons_zero, List.set_cons_succ]
      refine wpAnyH_take (i := 1) (oi := { dst := some 80, op := _, type := _, pos := _, after := _, guard := _ }) (v := ?v1a) rfl (by kernel_rfl) (by kernel_rfl) (by kernel_rfl) (fun _ _ _ h => h) (Or.inl ⟨by rfl, ?hy1a⟩) (by assumption) ?rest1a
      case hy1a => intro w hSw; (try dsimp only at hSw); go_simp; first | done | with_reducible rfl
      simp only [Act.put, List.setIfInBounds_toArray, List.set_cons_zero, List.set_cons_succ]
      refine wpAnyH_take (i := 2) (oi := { dst := some 81, op := _, type := _, pos := _, after := _, guard := _ }) (v := ?v2a) rfl (by kernel_rfl) (by kernel_rfl) (by kernel_rfl) (fun _ _ _ h => h) (Or.inl ⟨by rfl, ?hy2a⟩) (by assumption) ?rest2a
      case hy2a => intro w hSw; (try dsimp only at hSw); go_simp; first | done | with_reducible rfl
      simp only [Act.put, List.setIfInBounds_toArray, List.set_cons_zero, List.set_cons_succ]
      refine wpAnyH_take (i := 3) (oi := { dst := some 82, op := _, type := _, pos := _, after := _, guard := _ }) (v := ?v3a) rfl (by kernel_rfl) (by kernel_rfl) (by kernel_rfl) (fun _ _ _ h => h) (Or.inl ⟨by rfl, ?hy3a⟩) (by assumption) ?rest3a
      case hy3a => intro w hSw; (try dsimp only at hSw); go_simp; first | done | with_reducible rfl
      simp only [Act.put, List.setIfInBounds_toArray, List.set_cons_zero, List.set_cons_succ]
      refine wpAnyH_take (i := 4) (oi := { dst := some 83, op := _, type := _, pos := _, after := _, guard := _ }) (v := ?v4a) rfl (by kernel_rfl) (by kernel_rfl) (by kernel_rfl) (fun _ _ _ h => h) (Or.inl ⟨by rfl, ?hy4a⟩) (by assumption) ?rest4a
      case hy4a => intro w hSw; (try dsimp only at hSw); go_simp; first | done | with_reducible rfl
      simp only [Act.put, List.setIfInBounds_toArray, List.set_cons_zero, List.set_cons_succ]
      refine wpAnyH_take (i := 5) (oi := { dst := some 84, op := _, type := _, pos := _, after := _, guard := _ }) (v := ?v5a) rfl (by kernel_rfl) (by kernel_rfl) (by kernel_rfl) (fun _ _ _ h => h) (Or.inl ⟨by rfl, ?hy5a⟩) (by assumption) ?rest5a
      case hy5a => intro w hSw; (try dsimp only at hSw); go_simp; first | done | with_reducible rfl
      simp only [Act.put, List.setIfInBounds_toArray, List.set_cons_zero, List.set_cons_succ]
      refine wpAnyH_take (i := 6) (oi := { dst := some 85, op := _, type := _, pos := _, after := _, guard := _ }) (v := ?v6a) rfl (by kernel_rfl) (by kernel_rfl) (by kernel_rfl) (fun _ _ _ h => h) (Or.inl ⟨by rfl, ?hy6a⟩) (by assumption) ?rest6a
      case hy6a => intro w hSw; (try dsimp only at hSw); go_simp; first | done | with_reducible rfl
      simp only [Act.put, List.setIfInBounds_toArray, List.set_cons_zero, List.set_cons_succ]
      refine wpAnyH_take (i := 7) (oi := { dst := some 86, op := _, type := _, pos := _, after := _, guard := _ }) (v := ?v7a) rfl (by kernel_rfl) (by kernel_rfl) (by kernel_rfl) (fun _ _ _ h => h) (Or.inl ⟨by rfl, ?hy7a⟩) (by assumption) ?rest7a
      case hy7a => intro w hSw; (try dsimp only at hSw); go_simp; first | done | with_reducible rfl
      simp only [Act.put, List.setIfInBounds_toArray, List.set_cons_zero, List.set_cons_succ]
      refine wpAnyH_take (i := 9) (oi := { dst := some 88, op := _, type := _, pos := _, after := _, guard := _ }) (v := ?v9a) rfl (by kernel_rfl) (by kernel_rfl) (by kernel_rfl) (fun _ _ _ h => h) (Or.inl ⟨by rfl, ?hy9a⟩) (by assumption) ?rest9a
      case hy9a => intro w hSw; (try dsimp only at hSw); go_simp; first | done | with_reducible rfl
      simp only [Act.put, List.setIfInBounds_toArray, List.set_cons_zero, List.set_cons_succ]
      refine wpAnyH_take (i := 10) (oi := { dst := some 89, op := _, type := _, pos := _, after := _, guard := _ }) (v := ?v10a) rfl (by kernel_rfl) (by kernel_rfl) (by kernel_rfl) (fun _ _ _ h => h) (Or.inl ⟨by rfl, ?hy10a⟩) (by assumption) ?rest10a
      case hy10a => intro w hSw; (try dsimp only at hSw); go_simp; first | done | with_reducible rfl
      simp only [Act.put, List.setIfInBounds_toArray, List.set_cons_zero, List.set_cons_succ]
      refine wpAnyH_take (i := 11) (oi := { dst := some 90, op := _, type := _, pos := _, after := _, guard := _ }) (v := ?v11a) rfl (by kernel_rfl) (by kernel_rfl) (by kernel_rfl) (fun _ _ _ h => h) (Or.inl ⟨by rfl, ?hy11a⟩) (by assumption) ?rest11a
      case hy11a => intro w hSw; (try dsimp only at hSw); go_simp; first | done | with_reducible rfl
      simp only [Act.put, List.setIfInBounds_toArray, List.set_cons_zero, List.set_cons_succ]
      refine wpAnyH_take (i := 12) (oi := { dst := some 91, op := _, type := _, pos := _, after := _, guard := _ }) (v := ?v12a) rfl (by kernel_rfl) (by kernel_rfl) (by kernel_rfl) (fun _ _ _ h => h) (Or.inl ⟨by rfl, ?hy12a⟩) (by assumption) ?rest12a
      case hy12a => intro w hSw; (try dsimp only at hSw); go_simp; first | done | with_reducible rfl
      simp only [Act.put, List.setIfInBounds_toArray, List.set_cons_zero, List.set_cons_succ]
      refine wpAnyH_take (i := 13) (oi := { dst := some 92, op := _, type := _, pos := _, after := _, guard := _ }) (v := ?v13a) rfl (by kernel_rfl) (by kernel_rfl) (by kernel_rfl) (fun _ _ _ h => h) (Or.inl ⟨by rfl, ?hy13a⟩) (by assumption) ?rest13a
      case hy13a => intro w hSw; (try dsimp only at hSw); go_simp; first | done | with_reducible rfl
      simp only [Act.put, List.setIfInBounds_toArray, List.set_cons_zero, List.set_cons_succ]
      refine wpAnyH_take (i := 15) (oi := { dst := some 94, op := _, type := _, pos := _, after := _, guard := _ }) (v := ?v15a) rfl (by kernel_rfl) (by kernel_rfl) (by kernel_rfl) (fun _ _ _ h => h) (Or.inl ⟨by rfl, ?hy15a⟩) (by assumption) ?rest15a
      case hy15a => intro w hSw; (try dsimp only at hSw); go_simp; first | done | with_reducible rfl
      simp only [Act.put, List.setIfInBounds_toArray, List.set_cons_zero, List.set_cons_succ]
      refine wpAnyH_take (i := 16) (oi := { dst := some 95, op := _, type := _, pos := _, after := _, guard := _ }) (v := ?v16a) rfl (by kernel_rfl) (by kernel_rfl) (by kernel_rfl) (fun _ _ _ h => h) (Or.inl ⟨by rfl, ?hy16a⟩) (by assumption) ?rest16a
      case hy16a => intro w hSw; (try dsimp only at hSw); go_simp; first | done | with_reducible rfl
      simp only [Act.put, List.setIfInBounds_toArray, List.set_cons_zero, List.set_cons_succ]
      refine wpAnyH_take (i := 17) (oi := { dst := some 96, op := _, type := _, pos := _, after := _, guard := _ }) (v := ?v17a) rfl (by kernel_rfl) (by kernel_rfl) (by kernel_rfl) (fun _ _ _ h => h) (Or.inl ⟨by rfl, ?hy17a⟩) (by assumption) ?rest17a
      case hy17a => intro w hSw; (try dsimp only at hSw); go_simp; first | done | with_reducible rfl
      simp only [Act.put, List.setIfInBounds_toArray, List.set_cons_zero, List.set_cons_succ]
      refine wpAnyH_take (i := 18) (oi := { dst := some 97, op := _, type := _, pos := _, after := _, guard := _ }) (v := ?v18a) rfl (by kernel_rfl) (by kernel_rfl) (by kernel_rfl) (fun _ _ _ h => h) (Or.inl ⟨by rfl, ?hy18a⟩) (by assumption) ?rest18a
      case hy18a => intro w hSw; (try dsimp only at hSw); go_simp; first | done | with_reducible rfl
      simp only [Act.put, List.setIfInBounds_toArray, List.set_cons_zero, List.set_cons_succ]
      refine wpAnyH_take (i := 19) (oi := { dst := some 98, op := _, type := _, pos := _, after := _, guard := _ }) (v := ?v19a) rfl (by kernel_rfl) (by kernel_rfl) (by kernel_rfl) (fun _ _ _ h => h) (Or.inl ⟨by rfl, ?hy19a⟩) (by assumption) ?rest19a
      case hy19a => intro w hSw; (try dsimp only at hSw); go_simp; first | done | with_reducible rfl
      simp only [Act.put, List.setIfInBounds_toArray, List.set_cons_zero, List.set_cons_succ]
      refine wpAnyH_take (i := 20) (oi := { dst := some 99, op := _, type := _, pos := _, after := _, guard := _ }) (v := ?v20a) rfl (by kernel_rfl) (by kernel_rfl) (by kernel_rfl) (fun _ _ _ h => h) (Or.inl ⟨by rfl, ?hy20a⟩) (by assumption) ?rest20a
      case hy20a => intro w hSw; (try dsimp only at hSw); go_simp; first | done | with_reducible rfl
      simp only [Act.put, List.setIfInBounds_toArray, List.set_cons_zero, List.set_cons_succ]
      refine wpAnyH_take (i := 21) (oi := { dst := some 100, op := _, type := _, pos := _, after := _, guard := _ }) (v := ?v21a) rfl (by kernel_rfl) (by kernel_rfl) (by kernel_rfl) (fun _ _ _ h => h) (Or.inl ⟨by rfl, ?hy21a⟩) (by assumption) ?rest21a
      case hy21a => intro w hSw; (try dsimp only at hSw); go_simp; first | done | with_reducible rfl
      simp only [Act.put, List.setIfInBounds_toArray, List.set_cons_zero, List.set_cons_succ]
      refine wpAnyH_take (i := 22) (oi := { dst := some 101, op := _, type := _, pos := _, after := _, guard := _ }) (v := ?v22a) rfl (by kernel_rfl) (by kernel_rfl) (by kernel_rfl) (fun _ _ _ h => h) (Or.inl ⟨by rfl, ?hy22a⟩) (by assumption) ?rest22a
      case hy22a => intro w hSw; (try dsimp only at hSw); go_simp; first | done | with_reducible rfl
      simp only [Act.put, List.setIfInBounds_toArray, List.set_cons_zero, List.set_cons_succ]
      refine wpAnyH_take (i := 23) (oi := { dst := some 102, op := _, type := _, pos := _, after := _, guard := _ }) (v := ?v23a) rfl (by kernel_rfl) (by kernel_rfl) (by kernel_rfl) (fun _ _ _ h => h) (Or.inl ⟨by rfl, ?hy23a⟩) (by assumption) ?rest23a
      case hy23a => intro w hSw; (try dsimp only at hSw); go_simp; first | done | with_reducible rfl
      simp only [Act.put, List.setIfInBounds_toArray, List.set_cons_zero, List.set_cons_succ]
      refine wpAnyH_take (i := 24) (oi := { dst := some 103, op := _, type := _, pos := _, after := _, guard := _ }) (v := ?v24a) rfl (by kernel_rfl) (by kernel_rfl) (by kernel_rfl) (fun _ _ _ h => h) (Or.inl ⟨by rfl, ?hy24a⟩) (by assumption) ?rest24a
      case hy24a => intro w hSw; (try dsimp only at hSw); go_simp; first | done | with_reducible rfl
      simp only [Act.put, List.setIfInBounds_toArray, List.set_cons_zero, List.set_cons_succ]
      have kqd := Kq.drew kq2
      have std := st2.drew
      refine wpAnyH_ready (rs := [8]) (by kernel_rfl) (by simp) ?_
      refine AllReadyH.cons rfl (fun KZ hKZ => ?_) AllReadyH.nil
      go_simp
      refine (HB1.out _).mono ?_
      rintro e x1 ⟨rfl, bz⟩
      have kqa := kqd.below bz
      have sta := std.behind bz
      clear bz
      refine hKZ.out _ _ ?_ (fun hHeld => ?_)
      · exact HK.out _ kqa
      clear hKZ KZ
      try simp only [Act.put, List.setIfInBounds_toArray, List.set_cons_zero, List.set_cons_succ]
      refine wpAnyH_ready (rs := [14]) (by kernel_rfl) (by simp) ?_
      refine AllReadyH.cons rfl (fun KZ hKZ => ?_) AllReadyH.nil
      go_simp
      refine (HB2.out _).mono ?_
      rintro e x2 ⟨rfl, bz⟩
      have kqb := kqa.below bz
      have stb := sta.behind bz
      clear bz
      refine hKZ.out _ _ ?_ (fun hHeld => ?_)
      · exact HK.out _ kqb
      clear hKZ KZ
      try simp only [Act.put, List.setIfInBounds_toArray, List.set_cons_zero, List.set_cons_succ]
      refine wpAnyH_ready (rs := [25]) (by kernel_rfl) (by simp) ?_
      refine AllReadyH.cons rfl (fun KZ hKZ => ?_) AllReadyH.nil
      go_simp
      refine (HB3.out _).mono ?_
      rintro e x3 ⟨rfl, bz⟩
      have kqc := kqb.below bz
      have stc := stb.behind bz
      clear bz
      refine hKZ.out _ _ ?_ (fun hHeld => ?_)
      · exact HK.out _ kqc
      clear hKZ KZ
      try simp only [Act.put, List.setIfInBounds_toArray, List.set_cons_zero, List.set_cons_succ]
      refine wpAnyH_ready (rs := [26]) (by kernel_rfl) (by simp) ?_
      refine AllReadyH.cons rfl (fun KZ hKZ => ?_) AllReadyH.nil
      go_simp
      refine (HD1.out _ stc).mono ?_
      rintro e x4 ⟨ok3, m3, rfl, t1, t2, t3, t4, t5⟩
      have kqe := kqc.trans t5
      refine hKZ.out _ _ ?_ (fun hHeld => ?_)
      · exact HK.out _ kqe
      clear hKZ KZ
      try simp only [Act.put, List.setIfInBounds_toArray, List.set_cons_zero, List.set_cons_succ]
      cases ok3
      · as_aux_lemma =>
        refine wpAnyH_take (i := 27) (oi := { dst := some 106, op := _, type := _, pos := _, after := _, guard := _ }) (v := ?v27f) rfl (by kernel_rfl) (by kernel_rfl) (by kernel_rfl) (fun _ _ _ h => h) (Or.inl ⟨by rfl, ?hy27f⟩) (by assumption) ?rest27f
        case hy27f => intro w hSw; (try dsimp only at hSw); go_simp; first | done | with_reducible rfl
        simp only [Act.put, List.setIfInBounds_toArray, List.set_cons_zero, List.set_cons_succ]
        refine wpAnyH_take (i := 28) (oi := { dst := some 107, op := _, type := _, pos := _, after := _, guard := _ }) (v := undef) rfl (by kernel_rfl) (by kernel_rfl) (by kernel_rfl) (fun _ _ _ h => h) (Or.inr ⟨by rfl, rfl⟩) (by assumption) ?rest28f
        simp only [Act.put, List.setIfInBounds_toArray, List.set_cons_zero, List.set_cons_succ]
        refine wpAnyH_take (i := 29) (oi := { dst := some 108, op := _, type := _, pos := _, after := _, guard := _ }) (v := undef) rfl (by kernel_rfl) (by kernel_rfl) (by kernel_rfl) (fun _ _ _ h => h) (Or.inr ⟨by rfl, rfl⟩) (by assumption) ?rest29f
        simp only [Act.put, List.setIfInBounds_toArray, List.set_cons_zero, List.set_cons_succ]
        refine wpAnyH_take (i := 30) (oi := { dst := some 109, op := _, type := _, pos := _, after := _, guard := _ }) (v := undef) rfl (by kernel_rfl) (by kernel_rfl) (by kernel_rfl) (fun _ _ _ h => h) (Or.inr ⟨by rfl, rfl⟩) (by assumption) ?rest30f
        simp only [Act.put, List.setIfInBounds_toArray, List.set_cons_zero, List.set_cons_succ]
        refine wpAnyH_take (i := 31) (oi := { dst := some 110, op := _, type := _, pos := _, after := _, guard := _ }) (v := undef) rfl (by kernel_rfl) (by kernel_rfl) (by kernel_rfl) (fun _ _ _ h => h) (Or.inr ⟨by rfl, rfl⟩) (by assumption) ?rest31f
        simp only [Act.put, List.setIfInBounds_toArray, List.set_cons_zero, List.set_cons_succ]
        refine wpAnyH_take (i := 32) (oi := { dst := some 111, op := _, type := _, pos := _, after := _, guard := _ }) (v := undef) rfl (by kernel_rfl) (by kernel_rfl) (by kernel_rfl) (fun _ _ _ h => h) (Or.inr ⟨by rfl, rfl⟩) (by assumption) ?rest32f
        simp only [Act.put, List.setIfInBounds_toArray, List.set_cons_zero, List.set_cons_succ]
        refine wpAnyH_take (i := 33) (oi := { dst := some 112, op := _, type := _, pos := _, after := _, guard := _ }) (v := undef) rfl (by kernel_rfl) (by kernel_rfl) (by kernel_rfl) (fun _ _ _ h => h) (Or.inr ⟨by rfl, rfl⟩) (by assumption) ?rest33f
        simp only [Act.put, List.setIfInBounds_toArray, List.set_cons_zero, List.set_cons_succ]
        refine wpAnyH_take (i := 34) (oi := { dst := some 113, op := _, type := _, pos := _, after := _, guard := _ }) (v := undef) rfl (by kernel_rfl) (by kernel_rfl) (by kernel_rfl) (fun _ _ _ h => h) (Or.inr ⟨by rfl, rfl⟩) (by assumption) ?rest34f
        simp only [Act.put, List.setIfInBounds_toArray, List.set_cons_zero, List.set_cons_succ]
        refine wpAnyH_take (i := 35) (oi := { dst := some 114, op := _, type := _, pos := _, after := _, guard := _ }) (v := undef) rfl (by kernel_rfl) (by kernel_rfl) (by kernel_rfl) (fun _ _ _ h => h) (Or.inr ⟨by rfl, rfl⟩) (by assumption) ?rest35f
        simp only [Act.put, List.setIfInBounds_toArray, List.set_cons_zero, List.set_cons_succ]
        refine wpAnyH_take (i := 36) (oi := { dst := some 115, op := _, type := _, pos := _, after := _, guard := _ }) (v := undef) rfl (by kernel_rfl) (by kernel_rfl) (by kernel_rfl) (fun _ _ _ h => h) (Or.inr ⟨by rfl, rfl⟩) (by assumption) ?rest36f
        simp only [Act.put, List.setIfInBounds_toArray, List.set_cons_zero, List.set_cons_succ]
        refine wpAnyH_take (i := 37) (oi := { dst := some 116, op := _, type := _, pos := _, after := _, guard := _ }) (v := undef) rfl (by kernel_rfl) (by kernel_rfl) (by kernel_rfl) (fun _ _ _ h => h) (Or.inr ⟨by rfl, rfl⟩) (by assumption) ?rest37f
        simp only [Act.put, List.setIfInBounds_toArray, List.set_cons_zero, List.set_cons_succ]
        refine wpAnyH_take (i := 38) (oi := { dst := some 117, op := _, type := _, pos := _, after := _, guard := _ }) (v := undef) rfl (by kernel_rfl) (by kernel_rfl) (by kernel_rfl) (fun _ _ _ h => h) (Or.inr ⟨by rfl, rfl⟩) (by assumption) ?rest38f
        simp only [Act.put, List.setIfInBounds_toArray, List.set_cons_zero, List.set_cons_succ]
        refine wpAnyH_take (i := 39) (oi := { dst := some 118, op := _, type := _, pos := _, after := _, guard := _ }) (v := undef) rfl (by kernel_rfl) (by kernel_rfl) (by kernel_rfl) (fun _ _ _ h => h) (Or.inr ⟨by rfl, rfl⟩) (by assumption) ?rest39f
        simp only [Act.put, List.setIfInBounds_toArray, List.set_cons_zero, List.set_cons_succ]
        refine wpAnyH_take (i := 40) (oi := { dst := some 119, op := _, type := _, pos := _, after := _, guard := _ }) (v := undef) rfl (by kernel_rfl) (by kernel_rfl) (by kernel_rfl) (fun _ _ _ h => h) (Or.inr ⟨by rfl, rfl⟩) (by assumption) ?rest40f
        simp only [Act.put, List.setIfInBounds_toArray, List.set_cons_zero, List.set_cons_succ]
        refine wpAnyH_take (i := 41) (oi := { dst := some 120, op := _, type := _, pos := _, after := _, guard := _ }) (v := undef) rfl (by kernel_rfl) (by kernel_rfl) (by kernel_rfl) (fun _ _ _ h => h) (Or.inr ⟨by rfl, rfl⟩) (by assumption) ?rest41f
        simp only [Act.put, List.setIfInBounds_toArray, List.set_cons_zero, List.set_cons_succ]
        refine wpAnyH_take (i := 42) (oi := { dst := some 121, op := _, type := _, pos := _, after := _, guard := _ }) (v := undef) rfl (by kernel_rfl) (by kernel_rfl) (by kernel_rfl) (fun _ _ _ h => h) (Or.inr ⟨by rfl, rfl⟩) (by assumption) ?rest42f
        simp only [Act.put, List.setIfInBounds_toArray, List.set_cons_zero, List.set_cons_succ]
        refine wpAnyH_take (i := 43) (oi := { dst := some 122, op := _, type := _, pos := _, after := _, guard := _ }) (v := undef) rfl (by kernel_rfl) (by kernel_rfl) (by kernel_rfl) (fun _ _ _ h => h) (Or.inr ⟨by rfl, rfl⟩) (by assumption) ?rest43f
        simp only [Act.put, List.setIfInBounds_toArray, List.set_cons_zero, List.set_cons_succ]
        refine wpAnyH_take (i := 44) (oi := { dst := some 123, op := _, type := _, pos := _, after := _, guard := _ }) (v := undef) rfl (by kernel_rfl) (by kernel_rfl) (by kernel_rfl) (fun _ _ _ h => h) (Or.inr ⟨by rfl, rfl⟩) (by assumption) ?rest44f
        simp only [Act.put, List.setIfInBounds_toArray, List.set_cons_zero, List.set_cons_succ]
        refine wpAnyH_take (i := 45) (oi := { dst := some 124, op := _, type := _, pos := _, after := _, guard := _ }) (v := undef) rfl (by kernel_rfl) (by kernel_rfl) (by kernel_rfl) (fun _ _ _ h => h) (Or.inr ⟨by rfl, rfl⟩) (by assumption) ?rest45f
        simp only [Act.put, List.setIfInBounds_toArray, List.set_cons_zero, List.set_cons_succ]
        refine wpAnyH_take (i := 46) (oi := { dst := some 125, op := _, type := _, pos := _, after := _, guard := _ }) (v := undef) rfl (by kernel_rfl) (by kernel_rfl) (by kernel_rfl) (fun _ _ _ h => h) (Or.inr ⟨by rfl, rfl⟩) (by assumption) ?rest46f
        simp only [Act.put, List.setIfInBounds_toArray, List.set_cons_zero, List.set_cons_succ]
        refine wpAnyH_take (i := 47) (oi := { dst := some 126, op := _, type := _, pos := _, after := _, guard := _ }) (v := undef) rfl (by kernel_rfl) (by kernel_rfl) (by kernel_rfl) (fun _ _ _ h => h) (Or.inr ⟨by rfl, rfl⟩) (by assumption) ?rest47f
        simp only [Act.put, List.setIfInBounds_toArray, List.set_cons_zero, List.set_cons_succ]
        refine wpAnyH_take (i := 48) (oi := { dst := some 127, op := _, type := _, pos := _, after := _, guard := _ }) (v := undef) rfl (by kernel_rfl) (by kernel_rfl) (by kernel_rfl) (fun _ _ _ h => h) (Or.inr ⟨by rfl, rfl⟩) (by assumption) ?rest48f
        simp only [Act.put, List.setIfInBounds_toArray, List.set_cons_zero, List.set_cons_succ]
        refine wpAnyH_take (i := 49) (oi := { dst := some 128, op := _, type := _, pos := _, after := _, guard := _ }) (v := undef) rfl (by kernel_rfl) (by kernel_rfl) (by kernel_rfl) (fun _ _ _ h => h) (Or.inr ⟨by rfl, rfl⟩) (by assumption) ?rest49f
        simp only [Act.put, List.setIfInBounds_toArray, List.set_cons_zero, List.set_cons_succ]
        refine wpAnyH_take (i := 50) (oi := { dst := some 129, op := _, type := _, pos := _, after := _, guard := _ }) (v := undef) rfl (by kernel_rfl) (by kernel_rfl) (by kernel_rfl) (fun _ _ _ h => h) (Or.inr ⟨by rfl, rfl⟩) (by assumption) ?rest50f
        simp only [Act.put, List.setIfInBounds_toArray, List.set_cons_zero, List.set_cons_succ]
        refine wpAnyH_take (i := 51) (oi := { dst := some 130, op := _, type := _, pos := _, after := _, guard := _ }) (v := undef) rfl (by kernel_rfl) (by kernel_rfl) (by kernel_rfl) (fun _ _ _ h => h) (Or.inr ⟨by rfl, rfl⟩) (by assumption) ?rest51f
        simp only [Act.put, List.setIfInBounds_toArray, List.set_cons_zero, List.set_cons_succ]
        refine wpAnyH_take (i := 52) (oi := { dst := some 131, op := _, type := _, pos := _, after := _, guard := _ }) (v := ?v52f) rfl (by kernel_rfl) (by kernel_rfl) (by kernel_rfl) (fun _ _ _ h => h) (Or.inl ⟨by rfl, ?hy52f⟩) (by assumption) ?rest52f
        case hy52f => intro w hSw; (try dsimp only at hSw); go_simp; first | done | with_reducible rfl
        simp only [Act.put, List.setIfInBounds_toArray, List.set_cons_zero, List.set_cons_succ]
        refine wpAnyH_take (i := 53) (oi := { dst := some 8, op := _, type := _, pos := _, after := _, guard := _ }) (v := ?v53f) rfl (by kernel_rfl) (by kernel_rfl) (by kernel_rfl) (fun _ _ _ h => h) (Or.inl ⟨by rfl, ?hy53f⟩) (by assumption) ?rest53f
        case hy53f => intro w hSw; (try dsimp only at hSw); go_simp; first | done | with_reducible rfl
        simp only [Act.put, List.setIfInBounds_toArray, List.set_cons_zero, List.set_cons_succ]
        refine wpAnyH_done (by kernel_rfl) ?_ _
        have HE := Lib.hid (And.intro t1 (And.intro t2 (And.intro t4 (HKW.out.trans kqe))))
        clear t1 t2 t3 t4 t5 kqe
        go_wp2
        obtain ⟨t1, t2, t4, kk⟩ := HE.out
        obtain ⟨w1, w2, w3, w4⟩ := HFIN.out m3 m3 t2 (Only.refl _ _)
        refine HPH.out false m3 h1 _ ⟨t1, w1, (fun h => by cases h), fun _ => ?_, HUP.out.1, HUP.out.2, kk⟩
        obtain ⟨i, j, hi, hj, hb⟩ := t4 (by first | rfl | trivial)
        have hi' : i < M := hi
        have hj' : j < RD := hj
        rw [w3 i j hi' hj'] at hb
        exact combo_dot (by have := hdim.out; omega) (by have := HRM.out; omega) (by have := HMD.out; omega) hb
      · as_aux_lemma =>
        refine wpAnyH_take (i := 27) (oi := { dst := some 106, op := _, type := _, pos := _, after := _, guard := _ }) (v := ?v27t) rfl (by kernel_rfl) (by kernel_rfl) (by kernel_rfl) (fun _ _ _ h => h) (Or.inl ⟨by rfl, ?hy27t⟩) (by assumption) ?rest27t
        case hy27t => intro w hSw; (try dsimp only at hSw); go_simp; first | done | with_reducible rfl
        simp only [Act.put, List.setIfInBounds_toArray, List.set_cons_zero, List.set_cons_succ]
        refine wpAnyH_take (i := 28) (oi := { dst := some 107, op := _, type := _, pos := _, after := _, guard := _ }) (v := ?v28t) rfl (by kernel_rfl) (by kernel_rfl) (by kernel_rfl) (fun _ _ _ h => h) (Or.inl ⟨by rfl, ?hy28t⟩) (by assumption) ?rest28t
        case hy28t => intro w hSw; (try dsimp only at hSw); go_simp; first | done | with_reducible rfl
        simp only [Act.put, List.setIfInBounds_toArray, List.set_cons_zero, List.set_cons_succ]
        refine wpAnyH_take (i := 29) (oi := { dst := some 108, op := _, type := _, pos := _, after := _, guard := _ }) (v := ?v29t) rfl (by kernel_rfl) (by kernel_rfl) (by kernel_rfl) (fun _ _ _ h => h) (Or.inl ⟨by rfl, ?hy29t⟩) (by assumption) ?rest29t
        case hy29t => intro w hSw; (try dsimp only at hSw); go_simp; first | done | with_reducible rfl
        simp only [Act.put, List.setIfInBounds_toArray, List.set_cons_zero, List.set_cons_succ]
        refine wpAnyH_take (i := 30) (oi := { dst := some 109, op := _, type := _, pos := _, after := _, guard := _ }) (v := ?v30t) rfl (by kernel_rfl) (by kernel_rfl) (by kernel_rfl) (fun _ _ _ h => h) (Or.inl ⟨by rfl, ?hy30t⟩) (by assumption) ?rest30t
        case hy30t => intro w hSw; (try dsimp only at hSw); go_simp; first | done | with_reducible rfl
        simp only [Act.put, List.setIfInBounds_toArray, List.set_cons_zero, List.set_cons_succ]
        refine wpAnyH_take (i := 31) (oi := { dst := some 110, op := _, type := _, pos := _, after := _, guard := _ }) (v := ?v31t) rfl (by kernel_rfl) (by kernel_rfl) (by kernel_rfl) (fun _ _ _ h => h) (Or.inl ⟨by rfl, ?hy31t⟩) (by assumption) ?rest31t
        case hy31t => intro w hSw; (try dsimp only at hSw); go_simp; first | done | with_reducible rfl
        simp only [Act.put, List.setIfInBounds_toArray, List.set_cons_zero, List.set_cons_succ]
        refine wpAnyH_take (i := 32) (oi := { dst := some 111, op := _, type := _, pos := _, after := _, guard := _ }) (v := ?v32t) rfl (by kernel_rfl) (by kernel_rfl) (by kernel_rfl) (fun _ _ _ h => h) (Or.inl ⟨by rfl, ?hy32t⟩) (by assumption) ?rest32t
        case hy32t => intro w hSw; (try dsimp only at hSw); go_simp; first | done | with_reducible rfl
        simp only [Act.put, List.setIfInBounds_toArray, List.set_cons_zero, List.set_cons_succ]
        refine wpAnyH_take (i := 33) (oi := { dst := some 112, op := _, type := _, pos := _, after := _, guard := _ }) (v := ?v33t) rfl (by kernel_rfl) (by kernel_rfl) (by kernel_rfl) (fun _ _ _ h => h) (Or.inl ⟨by rfl, ?hy33t⟩) (by assumption) ?rest33t
        case hy33t => intro w hSw; (try dsimp only at hSw); go_simp; first | done | with_reducible rfl
        simp only [Act.put, List.setIfInBounds_toArray, List.set_cons_zero, List.set_cons_succ]
        refine wpAnyH_take (i := 34) (oi := { dst := some 113, op := _, type := _, pos := _, after := _, guard := _ }) (v := ?v34t) rfl (by kernel_rfl) (by kernel_rfl) (by kernel_rfl) (fun _ _ _ h => h) (Or.inl ⟨by rfl, ?hy34t⟩) (by assumption) ?rest34t
        case hy34t => intro w hSw; (try dsimp only at hSw); go_simp; first | done | with_reducible rfl
        simp only [Act.put, List.setIfInBounds_toArray, List.set_cons_zero, List.set_cons_succ]
        refine wpAnyH_take (i := 35) (oi := { dst := some 114, op := _, type := _, pos := _, after := _, guard := _ }) (v := ?v35t) rfl (by kernel_rfl) (by kernel_rfl) (by kernel_rfl) (fun _ _ _ h => h) (Or.inl ⟨by rfl, ?hy35t⟩) (by assumption) ?rest35t
        case hy35t => intro w hSw; (try dsimp only at hSw); go_simp; first | done | with_reducible rfl
        simp only [Act.put, List.setIfInBounds_toArray, List.set_cons_zero, List.set_cons_succ]
        refine wpAnyH_take (i := 36) (oi := { dst := some 115, op := _, type := _, pos := _, after := _, guard := _ }) (v := ?v36t) rfl (by kernel_rfl) (by kernel_rfl) (by kernel_rfl) (fun _ _ _ h => h) (Or.inl ⟨by rfl, ?hy36t⟩) (by assumption) ?rest36t
        case hy36t => intro w hSw; (try dsimp only at hSw); go_simp; first | done | with_reducible rfl
        simp only [Act.put, List.setIfInBounds_toArray, List.set_cons_zero, List.set_cons_succ]
        refine wpAnyH_take (i := 37) (oi := { dst := some 116, op := _, type := _, pos := _, after := _, guard := _ }) (v := ?v37t) rfl (by kernel_rfl) (by kernel_rfl) (by kernel_rfl) (fun _ _ _ h => h) (Or.inl ⟨by rfl, ?hy37t⟩) (by assumption) ?rest37t
        case hy37t => intro w hSw; (try dsimp only at hSw); go_simp; first | done | with_reducible rfl
        simp only [Act.put, List.setIfInBounds_toArray, List.set_cons_zero, List.set_cons_succ]
        refine wpAnyH_take (i := 39) (oi := { dst := some 118, op := _, type := _, pos := _, after := _, guard := _ }) (v := ?v39t) rfl (by kernel_rfl) (by kernel_rfl) (by kernel_rfl) (fun _ _ _ h => h) (Or.inl ⟨by rfl, ?hy39t⟩) (by assumption) ?rest39t
        case hy39t => intro w hSw; (try dsimp only at hSw); go_simp; first | done | with_reducible rfl
        simp only [Act.put, List.setIfInBounds_toArray, List.set_cons_zero, List.set_cons_succ]
        refine wpAnyH_take (i := 40) (oi := { dst := some 119, op := _, type := _, pos := _, after := _, guard := _ }) (v := ?v40t) rfl (by kernel_rfl) (by kernel_rfl) (by kernel_rfl) (fun _ _ _ h => h) (Or.inl ⟨by rfl, ?hy40t⟩) (by assumption) ?rest40t
        case hy40t => intro w hSw; (try dsimp only at hSw); go_simp; first | done | with_reducible rfl
        simp only [Act.put, List.setIfInBounds_toArray, List.set_cons_zero, List.set_cons_succ]
        refine wpAnyH_take (i := 41) (oi := { dst := some 120, op := _, type := _, pos := _, after := _, guard := _ }) (v := ?v41t) rfl (by kernel_rfl) (by kernel_rfl) (by kernel_rfl) (fun _ _ _ h => h) (Or.inl ⟨by rfl, ?hy41t⟩) (by assumption) ?rest41t
        case hy41t => intro w hSw; (try dsimp only at hSw); go_simp; first | done | with_reducible rfl
        simp only [Act.put, List.setIfInBounds_toArray, List.set_cons_zero, List.set_cons_succ]
        refine wpAnyH_take (i := 42) (oi := { dst := some 121, op := _, type := _, pos := _, after := _, guard := _ }) (v := ?v42t) rfl (by kernel_rfl) (by kernel_rfl) (by kernel_rfl) (fun _ _ _ h => h) (Or.inl ⟨by rfl, ?hy42t⟩) (by assumption) ?rest42t
        case hy42t => intro w hSw; (try dsimp only at hSw); go_simp; first | done | with_reducible rfl
        simp only [Act.put, List.setIfInBounds_toArray, List.set_cons_zero, List.set_cons_succ]
        refine wpAnyH_take (i := 43) (oi := { dst := some 122, op := _, type := _, pos := _, after := _, guard := _ }) (v := ?v43t) rfl (by kernel_rfl) (by kernel_rfl) (by kernel_rfl) (fun _ _ _ h => h) (Or.inl ⟨by rfl, ?hy43t⟩) (by assumption) ?rest43t
        case hy43t => intro w hSw; (try dsimp only at hSw); go_simp; first | done | with_reducible rfl
        simp only [Act.put, List.setIfInBounds_toArray, List.set_cons_zero, List.set_cons_succ]
        refine wpAnyH_take (i := 44) (oi := { dst := some 123, op := _, type := _, pos := _, after := _, guard := _ }) (v := ?v44t) rfl (by kernel_rfl) (by kernel_rfl) (by kernel_rfl) (fun _ _ _ h => h) (Or.inl ⟨by rfl, ?hy44t⟩) (by assumption) ?rest44t
        case hy44t => intro w hSw; (try dsimp only at hSw); go_simp; first | done | with_reducible rfl
        simp only [Act.put, List.setIfInBounds_toArray, List.set_cons_zero, List.set_cons_succ]
        refine wpAnyH_take (i := 45) (oi := { dst := some 124, op := _, type := _, pos := _, after := _, guard := _ }) (v := ?v45t) rfl (by kernel_rfl) (by kernel_rfl) (by kernel_rfl) (fun _ _ _ h => h) (Or.inl ⟨by rfl, ?hy45t⟩) (by assumption) ?rest45t
        case hy45t => intro w hSw; (try dsimp only at hSw); go_simp; first | done | with_reducible rfl
        simp only [Act.put, List.setIfInBounds_toArray, List.set_cons_zero, List.set_cons_succ]
        refine wpAnyH_take (i := 46) (oi := { dst := some 125, op := _, type := _, pos := _, after := _, guard := _ }) (v := ?v46t) rfl (by kernel_rfl) (by kernel_rfl) (by kernel_rfl) (fun _ _ _ h => h) (Or.inl ⟨by rfl, ?hy46t⟩) (by assumption) ?rest46t
        case hy46t => intro w hSw; (try dsimp only at hSw); go_simp; first | done | with_reducible rfl
        simp only [Act.put, List.setIfInBounds_toArray, List.set_cons_zero, List.set_cons_succ]
        refine wpAnyH_take (i := 47) (oi := { dst := some 126, op := _, type := _, pos := _, after := _, guard := _ }) (v := ?v47t) rfl (by kernel_rfl) (by kernel_rfl) (by kernel_rfl) (fun _ _ _ h => h) (Or.inl ⟨by rfl, ?hy47t⟩) (by assumption) ?rest47t
        case hy47t => intro w hSw; (try dsimp only at hSw); go_simp; first | done | with_reducible rfl
        simp only [Act.put, List.setIfInBounds_toArray, List.set_cons_zero, List.set_cons_succ]
        refine wpAnyH_take (i := 48) (oi := { dst := some 127, op := _, type := _, pos := _, after := _, guard := _ }) (v := ?v48t) rfl (by kernel_rfl) (by kernel_rfl) (by kernel_rfl) (fun _ _ _ h => h) (Or.inl ⟨by rfl, ?hy48t⟩) (by assumption) ?rest48t
        case hy48t => intro w hSw; (try dsimp only at hSw); go_simp; first | done | with_reducible rfl
        simp only [Act.put, List.setIfInBounds_toArray, List.set_cons_zero, List.set_cons_succ]
        refine wpAnyH_take (i := 50) (oi := { dst := some 129, op := _, type := _, pos := _, after := _, guard := _ }) (v := ?v50t) rfl (by kernel_rfl) (by kernel_rfl) (by kernel_rfl) (fun _ _ _ h => h) (Or.inl ⟨by rfl, ?hy50t⟩) (by assumption) ?rest50t
        case hy50t => intro w hSw; (try dsimp only at hSw); go_simp; first | done | with_reducible rfl
        simp only [Act.put, List.setIfInBounds_toArray, List.set_cons_zero, List.set_cons_succ]
        refine wpAnyH_ready (rs := [38]) (by kernel_rfl) (by simp) ?_
        refine AllReadyH.cons rfl (fun KZ hKZ => ?_) AllReadyH.nil
        go_simp
        refine (HB4.out _).mono ?_
        rintro e x5 ⟨rfl, bz⟩
        have kqf := kqe.below bz
        have stf := t1.behind bz
        clear bz
        refine hKZ.out _ _ ?_ (fun hHeld => ?_)
        · exact HK.out _ kqf
        clear hKZ KZ
        try simp only [Act.put, List.setIfInBounds_toArray, List.set_cons_zero, List.set_cons_succ]
        refine wpAnyH_ready (rs := [49]) (by kernel_rfl) (by simp) ?_
        refine AllReadyH.cons rfl (fun KZ hKZ => ?_) AllReadyH.nil
        go_simp
        refine (HB5.out _).mono ?_
        rintro e x6 ⟨rfl, bz⟩
        have kqg := kqf.below bz
        have stg := stf.behind bz
        clear bz
        refine hKZ.out _ _ ?_ (fun hHeld => ?_)
        · exact HK.out _ kqg
        clear hKZ KZ
        try simp only [Act.put, List.setIfInBounds_toArray, List.set_cons_zero, List.set_cons_succ]
        refine wpAnyH_ready (rs := [51]) (by kernel_rfl) (by simp) ?_
        refine AllReadyH.cons rfl (fun KZ hKZ => ?_) AllReadyH.nil
        go_simp
        refine (HD2.out _ _ stg).mono ?_
        rintro e x7 ⟨ok4, m4, rfl, s1, s2, s3, s4, s5⟩
        have kqi := kqg.trans s5
        refine hKZ.out _ _ ?_ (fun hHeld => ?_)
        · exact HK.out _ kqi
        clear hKZ KZ
        try simp only [Act.put, List.setIfInBounds_toArray, List.set_cons_zero, List.set_cons_succ]
        refine wpAnyH_take (i := 52) (oi := { dst := some 131, op := _, type := _, pos := _, after := _, guard := _ }) (v := ?v52t) rfl (by kernel_rfl) (by kernel_rfl) (by kernel_rfl) (fun _ _ _ h => h) (Or.inl ⟨by rfl, ?hy52t⟩) (by assumption) ?rest52t
        case hy52t => intro w hSw; (try dsimp only at hSw); go_simp; first | done | with_reducible rfl
        simp only [Act.put, List.setIfInBounds_toArray, List.set_cons_zero, List.set_cons_succ]
        refine wpAnyH_take (i := 53) (oi := { dst := some 8, op := _, type := _, pos := _, after := _, guard := _ }) (v := ?v53t) rfl (by kernel_rfl) (by kernel_rfl) (by kernel_rfl) (fun _ _ _ h => h) (Or.inl ⟨by rfl, ?hy53t⟩) (by assumption) ?rest53t
        case hy53t => intro w hSw; (try dsimp only at hSw); go_simp; first | done | with_reducible rfl
        simp only [Act.put, List.setIfInBounds_toArray, List.set_cons_zero, List.set_cons_succ]
        refine wpAnyH_done (by kernel_rfl) ?_ _
        have HE := Lib.hid (And.intro t2 (And.intro t3 (And.intro s1 (And.intro s2 (And.intro s3 (And.intro s4 (HKW.out.trans kqi)))))))
        clear t1 t2 t3 t4 t5 s1 s2 s3 s4 s5 kqi
        go_wp2
        obtain ⟨t2, t3, s1, s2, s3, s4, kk⟩ := HE.out
        obtain ⟨w1, w2, w3, w4⟩ := HFIN.out m3 m4 t2 s2
        refine HPH.out ok4 m4 h1 _ ⟨s1, w2, fun hk i j hi hj => ?_, fun hk => ?_, HUP.out.1, HUP.out.2, kk⟩
        · have dm := hdim.out
          have rm := HRM.out
          obtain ⟨e1, e2, e3, -⟩ := HMD.out
          refine mul_end (F1 := (Prt.mk S1 B1 N1 cap1 O1 p r T1).get m1) (F2 := (Prt.mk S1 B1 N1 cap1 O1 p r T1).get m2) (F3 := (Prt.mk S1 B1 N1 cap1 O1 p r T1).get m3) (F4 := (Prt.mk S1 B1 N1 cap1 O1 p r T1).get m4) HV1.out HV2.out (fun i j hi hj => ?_) (fun i j hi hj => ?_) (fun i j hi hj => ?_) (fun i j hi hj => ?_) hi hj
          · have := t2.get HDC.out.1 (i := i) (j := j) (by show i < M; omega) (by show j < D; omega)
            rwa [Prt.blk_get, Prt.blk_get, Nat.zero_add, Nat.zero_add] at this
          · have hj2 : j < RD := by omega
            have := t3 (by first | rfl | trivial) i j (by show i < M; omega) hj2
            rw [w3 i j (by omega) hj2, Prt.blk_get, Nat.zero_add, e3] at this
            exact this
          · have := s2.get HDC.out.2 (i := i) (j := j) (by show i < M; omega) hj
            rwa [Prt.blk_get, Prt.blk_get, Nat.zero_add, Nat.zero_add] at this
          · have hi2 : i < PM := by omega
            have := s3 hk i j hi2 hj
            rw [w4 i j hi2 hj, Prt.blk_get, Nat.zero_add, e1] at this
            exact this
        · obtain ⟨i, j, hi, hj, hb⟩ := s4 hk
          have hi' : i < PM := hi
          rw [w4 i j hi' hj] at hb
          exact combo_dot (by have := HRM.out; omega) hj (by have := HMD.out; omega) hb
end Go.Proofs.Ytjapilpjahhimaa
