/- pivot: Swap, Apply, Back. -/
import Derived.Test.YtjljmccdlkdgoaaPiEx
namespace Go.Proofs.Ytjljmccdlkdgoaa
open Go.RowKit Go.Shelf
/-- a matrix that is told, or an error -/
def MatOut (R C : Int) (m : Nat) (E : Int) (L : List Nat) (n : Nat) (e : Ending) (W' : World) : Prop :=
  ∃ (r c : Int) (b : Option Addr) (q cc : Nat), e = .returned (.tuple #[.agg #[.int .i64 r, .int .i64 c, .slice b q cc], .int .i64 E]) ∧ ((E = 0 ∧ r = R ∧ c = C ∧ q = m ∧ New n W' (.slice b q cc) L) ∨ (E ≠ 0 ∧ r = 0 ∧ c = 0 ∧ q = 0 ∧ b = none ∧ cc = 0))
open Classical in
noncomputable def exE (R C : Int) (m len : Nat) (f g : Nat → Int) : Int := if mayM R C m = true then (if ∀ k, k < len → goodP R f g k then 0 else 4) else 11
theorem exch_any {R C : Int} {a : Option Addr} {m cap gf len : Nat} {lb : Array Value} {f g : Nat → Int} {xs : List Nat} {w : World} (hA : Arg w (.slice a m cap) xs) (hS : Seq2 gf lb len f g w) :
    Calls Try.prog 20 #[.agg #[.int .i64 R, .int .i64 C, .slice a m cap], .func (.func gf) #[] lb] w fun e W' => MatOut R C m (exE R C m len f g) (exL C.toNat f g xs len) w.heap.size e W' ∧ Below w.heap.size w W' := by
  cases hm : mayM R C m
  · have hE : exE R C m len f g = 11 := by unfold exE; rw [hm, if_neg (by decide)]
    rw [hE]
    exact (exch_no hm).mono fun e W' ⟨h, b⟩ => ⟨⟨0, 0, none, 0, 0, h, .inr ⟨by decide, rfl, rfl, rfl, rfl, rfl⟩⟩, b⟩
  · obtain ⟨q1, q2, q3, q4, q5⟩ := mayM_facts hm
    obtain ⟨R, rfl⟩ : ∃ r : Nat, R = r := ⟨R.toNat, by omega⟩
    obtain ⟨C, rfl⟩ : ∃ c : Nat, C = c := ⟨C.toNat, by omega⟩
    refine (exch_yes hA hm hS).mono ?_
    rintro e W' ⟨h, b⟩
    refine ⟨?_, b⟩
    rcases h with ⟨hg, b', c', rfl, hN⟩ | ⟨hg, rfl⟩
    · have hE : exE R C m len f g = 0 := by unfold exE; rw [hm, if_pos rfl, if_pos hg]
      rw [hE]
      exact ⟨R, C, b', m, c', rfl, .inl ⟨rfl, rfl, rfl, rfl, hN⟩⟩
    · have hE : exE R C m len f g = 4 := by unfold exE; rw [hm, if_pos rfl, if_neg hg]
      rw [hE]
      exact ⟨0, 0, none, 0, 0, rfl, .inr ⟨by decide, rfl, rfl, rfl, rfl, rfl⟩⟩
theorem MatOut.lower {R C : Int} {m : Nat} {E : Int} {L : List Nat} {n n' : Nat} {e : Ending} {W' : World} (h : MatOut R C m E L n e W') (hn : n' ≤ n) : MatOut R C m E L n' e W' := by
  obtain ⟨r, c, b, q, cc, he, h⟩ := h
  exact ⟨r, c, b, q, cc, he, h.imp (fun ⟨h1, h2, h3, h4, h5⟩ => ⟨h1, h2, h3, h4, h5.lower hn⟩) id⟩
theorem MatOut.put3 {R C : Int} {m : Nat} {E : Int} {L : List Nat} {n : Nat} {r c : Int} {b : Option Addr} {q cc : Nat} {W' : World} (h : (E = 0 ∧ r = R ∧ c = C ∧ q = m ∧ New n W' (.slice b q cc) L) ∨ (E ≠ 0 ∧ r = 0 ∧ c = 0 ∧ q = 0 ∧ b = none ∧ cc = 0)) {g : Nat} (hg : g < n) (x y z : Value) :
    MatOut R C m E L n (.returned (.tuple #[.agg #[.int .i64 r, .int .i64 c, .slice b q cc], .int .i64 E])) (((W'.setCell ⟨g, 0, none⟩ x).setCell ⟨g, 1, none⟩ y).setCell ⟨g, 2, none⟩ z) :=
  ⟨r, c, b, q, cc, rfl, h.imp (fun ⟨h1, h2, h3, h4, h5⟩ => ⟨h1, h2, h3, h4, h5.put3 hg _ _ _⟩) id⟩
set_option maxRecDepth 100000 in
set_option maxHeartbeats 8000000 in
theorem pivot_swap {R C i k : Int} {a : Option Addr} {m cap : Nat} {xs : List Nat} {w : World} (hA : Arg w (.slice a m cap) xs) :
    Calls Try.prog 9 #[.agg #[.int .i64 R, .int .i64 C, .slice a m cap], .int .i64 i, .int .i64 k] w fun e W' => MatOut R C m (exE R C m 1 (fun _ => i) fun _ => k) (exL C.toNat (fun _ => i) (fun _ => k) xs 1) w.heap.size e W' ∧ Below w.heap.size w W' := by
  obtain ⟨B, G1, G2, hw0⟩ := vboxm w #[.int .i64 R, .int .i64 C, .slice a m cap] #[.int .i64 i] 24 3 _ rfl
  obtain ⟨j3, G3⟩ := mbox ((w.alloc (.cells #[.int .i64 R, .int .i64 C, .slice a m cap] 24)).alloc (.cells #[.int .i64 i] 3)) #[.int .i64 k] 3 _ rfl
  replace G1 := G1.behind j3
  replace G2 := G2.behind j3
  replace B := below_both B j3
  obtain ⟨j4, G4⟩ := mbox (((w.alloc (.cells #[.int .i64 R, .int .i64 C, .slice a m cap] 24)).alloc (.cells #[.int .i64 i] 3)).alloc (.cells #[.int .i64 k] 3)) #[.int .i64 0, .int .i64 0, .slice none 0 0] 24 _ rfl
  replace G1 := G1.behind j4
  replace G2 := G2.behind j4
  replace G3 := G3.behind j4
  replace B := below_both B j4
  simp only [World.size_alloc] at G3 G4
  have c0 := G1.cell (i := 0) rfl
  have c1 := G1.cell (i := 1) rfl
  have c2 := G1.cell (i := 2) rfl
  have HX := Lib.hid (exch_any (R := R) (C := C) (hA.behind B) (seq_one G2 G3))
  have hlt := G4.lt
  obtain ⟨E, hE⟩ : ∃ E, E = exE R C m 1 (fun _ => i) fun _ => k := ⟨_, rfl⟩
  rw [← hE] at HX ⊢
  generalize exL C.toNat (fun _ => i) (fun _ => k) xs 1 = L at *
  clear hw0 j3 j4 hA hE G2 G3
  go_enter Try.func9, Try.ntmps9
  go_wp2_with fail
  generalize (((w.alloc (.cells #[.int .i64 R, .int .i64 C, .slice a m cap] 24)).alloc (.cells #[.int .i64 i] 3)).alloc (.cells #[.int .i64 k] 3)).alloc (.cells #[.int .i64 0, .int .i64 0, .slice none 0 0] 24) = W0 at *
  refine HX.out.mono ?_
  rintro e w1 ⟨⟨r, c, b, q, cc, rfl, hx⟩, b1⟩
  have g4 := G4.behind b1
  have g0 := g4.cell (i := 0) rfl
  have g1 := g4.cell (i := 1) rfl
  have g2 := g4.cell (i := 2) rfl
  have f0 := g4.f 0
  have f1 := g4.f 1
  have f2 := g4.f 2
  have HM := Lib.hid hx
  have HB := Lib.hid (below_both B b1)
  clear g4 hx HX B b1
  go_wp2
  exact bodyPost_ret (v := .tuple #[.agg #[.int .i64 r, .int .i64 c, .slice b q cc], .int .i64 E]) (by simp [results, Try.results9, go_sem, g0, g1, g2]) rfl ⟨(MatOut.put3 HM.out hlt _ _ _).lower (by omega), HB.out.put3 (by omega) _ _ _⟩
set_option maxHeartbeats 1000000 in
theorem sl_all {a : Option Addr} {n c : Nat} {w : World} : Calls Try.prog 27 #[.slice a n c] w fun e W' => e = .returned (.func (.func 41) #[] #[.pointer (some ⟨w.heap.size, 0, none⟩)]) ∧ Ms W' w.heap.size #[.slice a n c] 36 ∧ Below w.heap.size w W' := by
  have hb := mbox w #[.slice a n c] 36 _ rfl
  go_enter Try.func27, Try.ntmps27
  go_wp2
  go_ret
  exact ⟨rfl, hb.2, hb.1⟩
set_option maxHeartbeats 1000000 in
theorem sl_back {a : Option Addr} {n c : Nat} {w : World} : Calls Try.prog 28 #[.slice a n c] w fun e W' => e = .returned (.func (.func 42) #[] #[.pointer (some ⟨w.heap.size, 0, none⟩)]) ∧ Ms W' w.heap.size #[.slice a n c] 36 ∧ Below w.heap.size w W' := by
  have hb := mbox w #[.slice a n c] 36 _ rfl
  go_enter Try.func28, Try.ntmps28
  go_wp2
  go_ret
  exact ⟨rfl, hb.2, hb.1⟩
-- GENERATED
set_option maxRecDepth 100000 in
set_option maxHeartbeats 8000000 in
theorem pivot_apply {R C : Int} {a : Option Addr} {m cap : Nat} {v : Value} {xs : List Nat} {zs : List Int} {w : World} (hA : Arg w (.slice a m cap) xs) (hz : ArgK .i64 w v zs) (hzl : zs.length ≤ 1000000000000000000) :
    Calls Try.prog 12 #[.agg #[.int .i64 R, .int .i64 C, .slice a m cap], v] w fun e W' => MatOut R C m (exE R C m zs.length (fun k => (k : Int)) (fun k => zat zs k)) (exL C.toNat (fun k => (k : Int)) (fun k => zat zs k) xs zs.length) w.heap.size e W' ∧ Below w.heap.size w W' := by
  obtain ⟨av, cv, rfl⟩ := hz.slice
  obtain ⟨zn', hzn⟩ : ∃ n, n = zs.length := ⟨_, rfl⟩
  obtain ⟨B, G1, G4, hw0⟩ := vboxm w #[.int .i64 R, .int .i64 C, .slice a m cap] #[.int .i64 0, .int .i64 0, .slice none 0 0] 24 24 _ rfl
  have c0 := G1.cell (i := 0) rfl
  have c1 := G1.cell (i := 1) rfl
  have c2 := G1.cell (i := 2) rfl
  obtain ⟨E, hE⟩ : ∃ E, E = exE R C m zs.length (fun k => (k : Int)) (fun k => zat zs k) := ⟨_, rfl⟩
  have HX : Hid (∀ (W : World) (b : Nat), Below w.heap.size w W → Ms W b #[.slice av zs.length cv] 36 → Calls Try.prog 20 #[.agg #[.int .i64 R, .int .i64 C, .slice a m cap], .func (.func 41) #[] #[.pointer (some ⟨b, 0, none⟩)]] W fun e W' => MatOut R C m E (exL C.toNat (fun k => (k : Int)) (fun k => zat zs k) xs zs.length) W.heap.size e W' ∧ Below W.heap.size W W') := Lib.hid (fun W b hb hM => by
    rw [hE]
    exact exch_any (hA.behind hb) (seq_all hM (hz.behind hb) hzl))
  have hlt := G4.lt
  rw [← hE]
  generalize exL C.toNat (fun k => (k : Int)) (fun k => zat zs k) xs zs.length = L at *
  clear hA hE hz hzl
  rw [← hzn] at HX ⊢
  clear hzn
  go_enter Try.func12, Try.ntmps12
  go_wp2_with fail
  generalize (w.alloc (.cells #[.int .i64 R, .int .i64 C, .slice a m cap] 24)).alloc (.cells #[.int .i64 0, .int .i64 0, .slice none 0 0] 24) = W0 at *
  have Br : Below W0.heap.size W0 W0 := Below.refl _ _
  have HCL : Hid (∀ W, Below W0.heap.size W0 W → W.cell? ⟨w.heap.size, 0, none⟩ = some (.int .i64 R) ∧ W.cell? ⟨w.heap.size, 1, none⟩ = some (.int .i64 C) ∧ W.cell? ⟨w.heap.size, 2, none⟩ = some (.slice a m cap)) := Lib.hid (fun W h => ⟨(G1.behind h).cell (i := 0) rfl, (G1.behind h).cell (i := 1) rfl, (G1.behind h).cell (i := 2) rfl⟩)
  have HCM : Hid (∀ W, Ms W w.heap.size #[.int .i64 R, .int .i64 C, .slice a m cap] 24 → W.cell? ⟨w.heap.size, 0, none⟩ = some (.int .i64 R) ∧ W.cell? ⟨w.heap.size, 1, none⟩ = some (.int .i64 C) ∧ W.cell? ⟨w.heap.size, 2, none⟩ = some (.slice a m cap)) := Lib.hid (fun W h => ⟨h.cell (i := 0) rfl, h.cell (i := 1) rfl, h.cell (i := 2) rfl⟩)
  have hn1 : w.heap.size ≠ w.heap.size + 1 := by omega
  go_region_held3 (fun W => W.cell? ⟨w.heap.size, 0, none⟩ = some (.int .i64 R) ∧ W.cell? ⟨w.heap.size, 1, none⟩ = some (.int .i64 C) ∧ W.cell? ⟨w.heap.size, 2, none⟩ = some (.slice a m cap))
    (first | with_reducible exact HCL.out _ Br | with_reducible exact HCL.out _ Br.drew | with_reducible exact HCM.out _ (((kG.put (p := ⟨w.heap.size + 1, 0, none⟩) hn1 _).put (p := ⟨w.heap.size + 1, 1, none⟩) hn1 _).put (p := ⟨w.heap.size + 1, 2, none⟩) hn1 _) | (trace_state; fail))
    (first
      | (go_at_call 20; (refine (HX.out _ _ (below_both B Br) hs).mono ?_); rintro e w2 ⟨⟨r, c, b, q, cc, rfl, hx⟩, bz⟩; have HM := Lib.hid hx; have hsz := Br.size; replace Br := below_both Br bz; have kG := G1.behind Br; have g4 := G4.behind Br; have g0 := g4.cell (i := 0) rfl; have g1 := g4.cell (i := 1) rfl; have g2 := g4.cell (i := 2) rfl; have f0 := g4.f 0; have f1 := g4.f 1; have f2 := g4.f 2; clear hx bz g4)
      | (go_at_call 27; (with_reducible refine (sl_all).mono ?_); rintro e w1 ⟨rfl, hs, bz⟩; (first | replace Br := below_both Br bz | replace Br := below_both Br.drew bz); clear bz)
      | (fail))
  go_wp2
  exact bodyPost_ret (v := .tuple #[.agg #[.int .i64 r, .int .i64 c, .slice b q cc], .int .i64 E]) (by simp [results, Try.results12, go_sem, g0, g1, g2]) rfl ⟨(MatOut.put3 HM.out (by omega) _ _ _).lower (by omega), (below_both B Br).put3 (by omega) _ _ _⟩
set_option maxRecDepth 100000 in
set_option maxHeartbeats 8000000 in
theorem pivot_back {R C : Int} {a : Option Addr} {m cap : Nat} {v : Value} {xs : List Nat} {zs : List Int} {w : World} (hA : Arg w (.slice a m cap) xs) (hz : ArgK .i64 w v zs) (hzl : zs.length ≤ 1000000000000000000) :
    Calls Try.prog 13 #[.agg #[.int .i64 R, .int .i64 C, .slice a m cap], v] w fun e W' => MatOut R C m (exE R C m zs.length (fun k => ((zs.length - 1 - k : Nat) : Int)) (fun k => zat zs (zs.length - 1 - k))) (exL C.toNat (fun k => ((zs.length - 1 - k : Nat) : Int)) (fun k => zat zs (zs.length - 1 - k)) xs zs.length) w.heap.size e W' ∧ Below w.heap.size w W' := by
  obtain ⟨av, cv, rfl⟩ := hz.slice
  obtain ⟨zn', hzn⟩ : ∃ n, n = zs.length := ⟨_, rfl⟩
  obtain ⟨B, G1, G4, hw0⟩ := vboxm w #[.int .i64 R, .int .i64 C, .slice a m cap] #[.int .i64 0, .int .i64 0, .slice none 0 0] 24 24 _ rfl
  have c0 := G1.cell (i := 0) rfl
  have c1 := G1.cell (i := 1) rfl
  have c2 := G1.cell (i := 2) rfl
  obtain ⟨E, hE⟩ : ∃ E, E = exE R C m zs.length (fun k => ((zs.length - 1 - k : Nat) : Int)) (fun k => zat zs (zs.length - 1 - k)) := ⟨_, rfl⟩
  have HX : Hid (∀ (W : World) (b : Nat), Below w.heap.size w W → Ms W b #[.slice av zs.length cv] 36 → Calls Try.prog 20 #[.agg #[.int .i64 R, .int .i64 C, .slice a m cap], .func (.func 42) #[] #[.pointer (some ⟨b, 0, none⟩)]] W fun e W' => MatOut R C m E (exL C.toNat (fun k => ((zs.length - 1 - k : Nat) : Int)) (fun k => zat zs (zs.length - 1 - k)) xs zs.length) W.heap.size e W' ∧ Below W.heap.size W W') := Lib.hid (fun W b hb hM => by
    rw [hE]
    exact exch_any (hA.behind hb) (seq_back hM (hz.behind hb) hzl))
  have hlt := G4.lt
  rw [← hE]
  generalize exL C.toNat (fun k => ((zs.length - 1 - k : Nat) : Int)) (fun k => zat zs (zs.length - 1 - k)) xs zs.length = L at *
  clear hA hE hz hzl
  rw [← hzn] at HX ⊢
  clear hzn
  go_enter Try.func13, Try.ntmps13
  go_wp2_with fail
  generalize (w.alloc (.cells #[.int .i64 R, .int .i64 C, .slice a m cap] 24)).alloc (.cells #[.int .i64 0, .int .i64 0, .slice none 0 0] 24) = W0 at *
  have Br : Below W0.heap.size W0 W0 := Below.refl _ _
  have HCL : Hid (∀ W, Below W0.heap.size W0 W → W.cell? ⟨w.heap.size, 0, none⟩ = some (.int .i64 R) ∧ W.cell? ⟨w.heap.size, 1, none⟩ = some (.int .i64 C) ∧ W.cell? ⟨w.heap.size, 2, none⟩ = some (.slice a m cap)) := Lib.hid (fun W h => ⟨(G1.behind h).cell (i := 0) rfl, (G1.behind h).cell (i := 1) rfl, (G1.behind h).cell (i := 2) rfl⟩)
  have HCM : Hid (∀ W, Ms W w.heap.size #[.int .i64 R, .int .i64 C, .slice a m cap] 24 → W.cell? ⟨w.heap.size, 0, none⟩ = some (.int .i64 R) ∧ W.cell? ⟨w.heap.size, 1, none⟩ = some (.int .i64 C) ∧ W.cell? ⟨w.heap.size, 2, none⟩ = some (.slice a m cap)) := Lib.hid (fun W h => ⟨h.cell (i := 0) rfl, h.cell (i := 1) rfl, h.cell (i := 2) rfl⟩)
  have hn1 : w.heap.size ≠ w.heap.size + 1 := by omega
  go_region_held3 (fun W => W.cell? ⟨w.heap.size, 0, none⟩ = some (.int .i64 R) ∧ W.cell? ⟨w.heap.size, 1, none⟩ = some (.int .i64 C) ∧ W.cell? ⟨w.heap.size, 2, none⟩ = some (.slice a m cap))
    (first | with_reducible exact HCL.out _ Br | with_reducible exact HCL.out _ Br.drew | with_reducible exact HCM.out _ (((kG.put (p := ⟨w.heap.size + 1, 0, none⟩) hn1 _).put (p := ⟨w.heap.size + 1, 1, none⟩) hn1 _).put (p := ⟨w.heap.size + 1, 2, none⟩) hn1 _) | (trace_state; fail))
    (first
      | (go_at_call 20; (refine (HX.out _ _ (below_both B Br) hs).mono ?_); rintro e w2 ⟨⟨r, c, b, q, cc, rfl, hx⟩, bz⟩; have HM := Lib.hid hx; have hsz := Br.size; replace Br := below_both Br bz; have kG := G1.behind Br; have g4 := G4.behind Br; have g0 := g4.cell (i := 0) rfl; have g1 := g4.cell (i := 1) rfl; have g2 := g4.cell (i := 2) rfl; have f0 := g4.f 0; have f1 := g4.f 1; have f2 := g4.f 2; clear hx bz g4)
      | (go_at_call 28; (with_reducible refine (sl_back).mono ?_); rintro e w1 ⟨rfl, hs, bz⟩; (first | replace Br := below_both Br bz | replace Br := below_both Br.drew bz); clear bz)
      | (fail))
  go_wp2
  exact bodyPost_ret (v := .tuple #[.agg #[.int .i64 r, .int .i64 c, .slice b q cc], .int .i64 E]) (by simp [results, Try.results13, go_sem, g0, g1, g2]) rfl ⟨(MatOut.put3 HM.out (by omega) _ _ _).lower (by omega), (below_both B Br).put3 (by omega) _ _ _⟩
end Go.Proofs.Ytjljmccdlkdgoaa
