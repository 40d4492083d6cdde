/- tri: ready. -/
import Derived.Test.YtdonecohnemomaaGeSpec
import Derived.Deep.CutRange
import Derived.Deep.DeepCutAuto
namespace Go.Proofs.Ytdonecohnemomaa
open Go.RowKit Go.Shelf
theorem tri_at {W : World} {v : Value} {xs : List Nat} (hA : Arg W v xs) (h0 : 0 < xs.length) : ∃ S off cap, v = .slice (some ⟨S, off, none⟩) xs.length cap ∧ Hid (∀ W', Below W.heap.size W W' → ∀ k, k < xs.length → W'.cell? ⟨S, off + k, none⟩ = some (.int .u64 (lim xs k : Int))) := by
  obtain ⟨S, hS, hR⟩ := hA
  obtain ⟨a', c', e, hc, ho⟩ := hR.slice
  obtain ⟨off, rfl⟩ := ho h0
  subst e
  exact ⟨S, off, c', rfl, Lib.hid fun W' hb k hk => (hR.kept (hb.block S hS)).cell hk⟩
/-- whether one of the first k numbers of the diagonal is a zero -/
def diagZ (C : Nat) (xs : List Nat) : Nat → Bool
  | 0 => false
  | k + 1 => diagZ C xs k || decide (cls (lim xs (k * C + k)) = 0)
theorem diagZ_up {C : Nat} {xs : List Nat} {k n : Nat} (h : diagZ C xs k = true) (hn : k ≤ n) : diagZ C xs n = true := by
  induction n with
  | zero => obtain rfl : k = 0 := by omega
            exact h
  | succ n ih =>
    by_cases hk : k = n + 1
    · rw [← hk]; exact h
    · unfold diagZ
      rw [ih (by omega), Bool.true_or]
/-- the first error of f1, f2 (the two matrices' own), of the sides, and of the diagonal -/
def readyE (f1 f2 R C R2 : Int) (unit : Bool) (xs : List Nat) : Int := if f1 ≠ 0 then f1 else if f2 ≠ 0 then f2 else if R ≠ C ∨ R2 ≠ R then 11 else if (!unit && diagZ R.toNat xs R.toNat) = true then 7 else 0
set_option maxRecDepth 100000 in
set_option maxHeartbeats 16000000 in
theorem tri_ready {R C R2 C2 : Int} {unit : Bool} {a b : Option Addr} {m n cap cap2 : Nat} {xs ys : List Nat} {w : World} (hA : Arg w (.slice a m cap) xs) (hB : Arg w (.slice b n cap2) ys) (hx : Low 18446744073709551616 xs) (hy : Low 18446744073709551616 ys) :
    Calls Try.prog 67 #[.agg #[.int .i64 R, .int .i64 C, .slice a m cap], .bool unit, .agg #[.int .i64 R2, .int .i64 C2, .slice b n cap2]] w fun e W' => e = .returned (.int .i64 (readyE (finM R C m xs) (finM R2 C2 n ys) R C R2 unit xs)) ∧ Below w.heap.size w W' := by
  have hml : m = xs.length := by
    obtain ⟨a', c', e⟩ := hA.slice
    simp only [Value.slice.injEq] at e
    omega
  have hf1 := fun (W : World) (h : Below w.heap.size w W) => shape_finite (R := R) (C := C) (hA.behind h) hx
  have hf2 := fun (W : World) (h : Below w.heap.size w W) => shape_finite (R := R2) (C := C2) (hB.behind h) hy
  have HFI : Hid (finM R C m xs = 0 → mayM R C m = true) := Lib.hid (fun h => (finM_ok h).1)
  generalize finM R C m xs = f1 at *
  generalize finM R2 C2 n ys = f2 at *
  have F1H := Lib.hid hf1
  have F2H := Lib.hid hf2
  obtain ⟨E, hE⟩ : ∃ q, q = readyE f1 f2 R C R2 unit xs := ⟨_, rfl⟩
  rw [← hE]
  have HE := Lib.hid hE
  obtain ⟨B0, G1, G2, hw0⟩ := vboxm w #[.int .i64 R, .int .i64 C, .slice a m cap] #[.int .i64 R2, .int .i64 C2, .slice b n cap2] 24 24 _ rfl
  have y0 : ∀ w : World, (Instr.index 100 (.agg #[.int .i64 R, .int .i64 C, .slice a m cap, .int .i64 R2, .int .i64 C2, .slice b n cap2]) (.int .i64 0)).run Try.prog w = .ok (.agg #[.int .i64 R, .int .i64 C, .slice a m cap]) w := fun _ => by kernel_rfl
  have y1 : ∀ w : World, (Instr.index 100 (.agg #[.int .i64 R, .int .i64 C, .slice a m cap, .int .i64 R2, .int .i64 C2, .slice b n cap2]) (.int .i64 1)).run Try.prog w = .ok (.agg #[.int .i64 R2, .int .i64 C2, .slice b n cap2]) w := fun _ => by kernel_rfl
  have c0 := G1.cell (i := 0) rfl
  have c1 := G1.cell (i := 1) rfl
  have c2 := G1.cell (i := 2) rfl
  have d0 := G2.cell (i := 0) rfl
  have d1 := G2.cell (i := 1) rfl
  have d2 := G2.cell (i := 2) rfl
  have HAA := Lib.hid (And.intro hml (And.intro hA hx))
  clear hf1 hf2 hE hw0 hml hA hB hx hy
  go_enter Try.func67, Try.ntmps67
  go_wp2
  generalize (w.alloc (.cells #[.int .i64 R, .int .i64 C, .slice a m cap] 24)).alloc (.cells #[.int .i64 R2, .int .i64 C2, .slice b n cap2] 24) = W0 at *
  go_loopw [14] (fun i wr => ∃ (k : Nat) (z : Int), k ≤ 2 ∧ z = k ∧ i = .int .i64 z ∧ Hid (1 ≤ k → f1 = 0) ∧ Hid (2 ≤ k → f2 = 0) ∧ Below W0.heap.size W0 wr) (fun i _ => 2 - (intOf i).toNat)
  case atStart => exact ⟨0, 0, by omega, rfl, rfl, Lib.hid (fun h => absurd h (by decide)), Lib.hid (fun h => absurd h (by decide)), Below.refl _ _⟩
  case round =>
    clear c0 c1 c2 d0 d1 d2
    obtain ⟨k, z, hk, hz, rfl, HE1, HE2, hB⟩ := hrel
    rcases (show k = 0 ∨ k = 1 ∨ k = 2 by omega) with rfl | rfl | rfl
    · as_aux_lemma =>
      obtain rfl : z = 0 := hz
      have bA := bel_new wr (.cells #[.int .i64 R, .int .i64 C, .slice a m cap] 24)
      have BA := below_both (below_both B0 hB) bA
      have hF := F1H.out _ BA
      by_cases h0 : f1 = 0
      · have H0 := Lib.hid h0
        rw [h0] at hF
        clear h0
        go_wp2_with fail
        refine hF.mono ?_
        rintro e w2 ⟨rfl, b2⟩
        go_wp2
        exact ⟨⟨1, 1, by omega, rfl, rfl, Lib.hid (by first | (intro _; first | exact H0.out | trivial) | trivial), Lib.hid (by first | (intro _; first | exact H0.out | omega | trivial) | trivial), below_both hB (below_both bA b2)⟩, by simp [intOf]⟩
      · have HT : Hid (E = f1) := Lib.hid (by rw [HE.out]; unfold readyE; rw [if_pos h0])
        have d : (f1 != 0) = true := bne_iff_ne.2 h0
        clear h0
        go_wp2_with fail
        refine hF.mono ?_
        rintro e w2 ⟨rfl, b2⟩
        go_wp2
        go_ret
        exact ⟨(by have h := HT.out; subst h; rfl), below_both BA b2⟩
    · as_aux_lemma =>
      obtain rfl : z = 1 := hz
      have bA := bel_new wr (.cells #[.int .i64 R2, .int .i64 C2, .slice b n cap2] 24)
      have BA := below_both (below_both B0 hB) bA
      have hF := F2H.out _ BA
      by_cases h0 : f2 = 0
      · have H0 := Lib.hid h0
        rw [h0] at hF
        clear h0
        go_wp2_with fail
        refine hF.mono ?_
        rintro e w2 ⟨rfl, b2⟩
        go_wp2
        exact ⟨⟨2, 2, by omega, rfl, rfl, Lib.hid (by first | (intro _; first | exact HE1.out (by omega) | trivial) | trivial), Lib.hid (by first | (intro _; first | exact H0.out | omega | trivial) | trivial), below_both hB (below_both bA b2)⟩, by simp [intOf]⟩
      · have HT : Hid (E = f2) := Lib.hid (by rw [HE.out]; unfold readyE; rw [if_neg (by rw [HE1.out (by omega)]; decide), if_pos h0])
        have d : (f2 != 0) = true := bne_iff_ne.2 h0
        clear h0
        go_wp2_with fail
        refine hF.mono ?_
        rintro e w2 ⟨rfl, b2⟩
        go_wp2
        go_ret
        exact ⟨(by have h := HT.out; subst h; rfl), below_both BA b2⟩
    · obtain rfl : z = 2 := hz
      have h1 := HE1.out (by omega)
      have h2 := HE2.out (by omega)
      subst h1
      subst h2
      have K1 := G1.behind hB
      have K2 := G2.behind hB
      have c0 := K1.cell (i := 0) rfl
      have c1 := K1.cell (i := 1) rfl
      have d0 := K2.cell (i := 0) rfl
      have BW := below_both B0 hB
      clear F1H F2H y0 y1 HE1 HE2
      by_cases h1 : R = C
      · subst h1
        have r1 : (R != R) = false := by simp
        by_cases h2 : R2 = R
        · subst h2
          obtain ⟨p1, p2, p3, p4, p5⟩ := mayM_iff.1 (HFI.out rfl)
          obtain ⟨r, rfl⟩ := Int.eq_ofNat_of_zero_le (show 0 ≤ R2 by omega)
          have hmn : m = r * r := by rw [← Int.natCast_mul] at p5; omega
          have hrr : r ≤ 64 := by omega
          obtain ⟨hml, hA, hx⟩ := HAA.out
          have hm0 : 0 < r * r := Nat.mul_pos (by omega) (by omega)
          obtain ⟨S, off, cp, e, HX⟩ := tri_at hA (by omega)
          simp only [Value.slice.injEq] at e
          obtain ⟨rfl, -, rfl⟩ := e
          have HD : Hid (∀ k, k < r → ∃ x P Q : Nat, IntKind.i64.wrap ((k : Int) * (r : Int)) = (Q : Int) ∧ IntKind.i64.wrap ((Q : Int) + (k : Int)) = (P : Int) ∧ P < m ∧ (x : Int) ≤ 18446744073709551615 ∧ (∀ W, Below w.heap.size w W → W.cell? ⟨S, off + P, none⟩ = some (.int .u64 (x : Int))) ∧ diagZ r xs (k + 1) = (diagZ r xs k || decide (cls x = 0))) := Lib.hid (fun k hk => by
            have a1 := Nat.mul_le_mul_right r (show k + 1 ≤ r by omega)
            have a2 : r * r ≤ 64 * 64 := Nat.mul_le_mul hrr hrr
            rw [Nat.add_mul, Nat.one_mul] at a1
            have hlo : lim xs (k * r + k) < 18446744073709551616 := lim_lt_low hx _
            exact ⟨lim xs (k * r + k), k * r + k, k * r, by rw [← Int.natCast_mul]; exact IntWalk.i64_in _ (by omega), by rw [← Int.natCast_add]; exact IntWalk.i64_in _ (by omega), by omega, by omega, fun W h => HX.out W h _ (by omega), rfl⟩)
          have HE0 : Hid (∀ k, k ≤ r → (!unit && diagZ r xs k) = true → E = 7) := Lib.hid (fun k hk h => by
            rw [HE.out]
            unfold readyE
            rw [if_neg (by decide), if_neg (by decide), if_neg (by omega), Int.toNat_natCast, if_pos]
            simp only [Bool.and_eq_true] at h ⊢
            exact ⟨h.1, diagZ_up h.2 hk⟩)
          have HE9 : Hid ((!unit && diagZ r xs r) = false → E = 0) := Lib.hid (fun h => by
            rw [HE.out]
            unfold readyE
            rw [if_neg (by decide), if_neg (by decide), if_neg (by omega), Int.toNat_natCast, h]
            rfl)
          clear p1 p2 p3 p4 p5 hmn hml hA hx hm0 HX HAA HE HFI
          go_wp2
          go_loopw [37] (fun i wv => ∃ k : Nat, k ≤ r ∧ i = .int .i64 k ∧ Hid ((!unit && diagZ r xs k) = false) ∧ Below W0.heap.size W0 wv) (fun i _ => r - (intOf i).toNat)
          case atStart => exact ⟨0, Nat.zero_le _, rfl, Lib.hid (by unfold diagZ; rw [Bool.and_false]), hB⟩
          case round =>
            clear hB BW K1 K2 c0 c1 d0
            obtain ⟨k, hk, rfl, HZ, hB⟩ := hrel
            have BW := below_both B0 hB
            have c0 := (G1.behind hB).cell (i := 0) rfl
            have c1 := (G1.behind hB).cell (i := 1) rfl
            have c2 := (G1.behind hB).cell (i := 2) rfl
            by_cases hlt : k < r
            · obtain ⟨x, P, Q, e1, e2, e3, e4, e5, e6⟩ := HD.out k hlt
              have q : decide ((k : Int) < (r : Int)) = true := decide_eq_true (by omega)
              have e7 : IntKind.i64.wrap ((k : Int) + 1) = ((k + 1 : Nat) : Int) := by rw [Int.natCast_add]; exact IntWalk.i64_in _ (by omega)
              have ka := e5 _ BW
              have HS := Lib.hid e6
              have HXL := Lib.hid e4
              clear e5 e6 e4
              cases unit
              · have hz := HZ.out
                rw [Bool.not_false, Bool.true_and] at hz
                by_cases hc : cls x = 0
                · as_aux_lemma =>
                  have HT : Hid (E = 7) := Lib.hid (HE0.out (k + 1) (by omega) (by rw [HS.out, hz, decide_eq_true hc]; rfl))
                  have hp := fun w => pclass (w := w) HXL.out
                  rw [hc] at hp
                  clear hc hz
                  go_wp2_with fail
                  refine (hp _).mono ?_
                  rintro e w2 ⟨rfl, b2⟩
                  go_wp2
                  go_ret
                  exact ⟨(by have h := HT.out; subst h; rfl), below_both BW b2⟩
                · as_aux_lemma =>
                  have HT : Hid ((!false && diagZ r xs (k + 1)) = false) := Lib.hid (by rw [HS.out, hz, decide_eq_false hc]; rfl)
                  have hp := fun w => pclass (w := w) HXL.out
                  generalize cls x = cx at *
                  have q2 : ((cx : Int) == 0) = false := by simp; omega
                  have q3 : decide ((cx : Int) = 0) = false := decide_eq_false (by omega)
                  clear hz
                  go_wp2_with fail
                  refine (hp _).mono ?_
                  rintro e w2 ⟨rfl, b2⟩
                  go_wp2
                  exact ⟨⟨k + 1, by omega, rfl, HT, below_both hB b2⟩, by simp [intOf]; omega⟩
              · as_aux_lemma =>
                go_wp2
                exact ⟨⟨k + 1, by omega, rfl, Lib.hid rfl, hB⟩, by simp [intOf]; omega⟩
            · as_aux_lemma =>
              obtain rfl : k = r := by omega
              have q : decide ((k : Int) < (k : Int)) = false := decide_eq_false (by omega)
              have HT := Lib.hid (HE9.out HZ.out)
              clear hlt
              go_wp2
              go_ret
              exact ⟨(by have h := HT.out; subst h; rfl), BW⟩
        · as_aux_lemma =>
          have HT : Hid (E = 11) := Lib.hid (by rw [HE.out]; unfold readyE; rw [if_neg (by decide), if_neg (by decide), if_pos (.inr h2)])
          have r2 : (R2 != R) = true := bne_iff_ne.2 h2
          clear h2
          go_wp2
          go_ret
          exact ⟨(by have h := HT.out; subst h; rfl), BW⟩
      · as_aux_lemma =>
        have HT : Hid (E = 11) := Lib.hid (by rw [HE.out]; unfold readyE; rw [if_neg (by decide), if_neg (by decide), if_pos (.inl h1)])
        have r2 : (R != C) = true := bne_iff_ne.2 h1
        clear h1
        go_wp2
        go_ret
        exact ⟨(by have h := HT.out; subst h; rfl), BW⟩
end Go.Proofs.Ytdonecohnemomaa

/- tri: counts, Is. -/
namespace Go.Proofs.Ytdonecohnemomaa
open Go.RowKit Go.Shelf
def cntB (up : Bool) (i j : Nat) : Bool := if up then decide (i ≤ j) else decide (j ≤ i)
set_option maxRecDepth 100000 in
theorem tri_counts {i j : Nat} {up : Bool} {w : World} : Calls Try.prog 75 #[.int .i64 (i : Int), .int .i64 (j : Int), .bool up] w fun e W' => e = .returned (.bool (cntB up i j)) ∧ w = W' := by
  cases up
  · by_cases h : j ≤ i
    · have hc : cntB false i j = true := by unfold cntB; rw [if_neg (by decide)]; exact decide_eq_true h
      have q : decide ((j : Int) ≤ (i : Int)) = true := decide_eq_true (by omega)
      rw [hc]
      clear hc
      go_enter Try.func75, Try.ntmps75
      go_wp2
      go_ret
      exact ⟨rfl, rfl⟩
    · have hc : cntB false i j = false := by unfold cntB; rw [if_neg (by decide)]; exact decide_eq_false h
      have q : decide ((j : Int) ≤ (i : Int)) = false := decide_eq_false (by omega)
      have h2 : i < j := by omega
      rw [hc]
      clear hc
      go_enter Try.func75, Try.ntmps75
      go_wp2
      go_ret
      exact ⟨rfl, rfl⟩
  · by_cases h : i ≤ j
    · have hc : cntB true i j = true := by unfold cntB; rw [if_pos rfl]; exact decide_eq_true h
      have q : decide ((i : Int) ≤ (j : Int)) = true := decide_eq_true (by omega)
      rw [hc]
      clear hc
      go_enter Try.func75, Try.ntmps75
      go_wp2
      go_ret
      exact ⟨rfl, rfl⟩
    · have hc : cntB true i j = false := by unfold cntB; rw [if_pos rfl]; exact decide_eq_false h
      have q : decide ((i : Int) ≤ (j : Int)) = false := decide_eq_false (by omega)
      have h2 : j < i := by omega
      rw [hc]
      clear hc
      go_enter Try.func75, Try.ntmps75
      go_wp2
      go_ret
      exact ⟨rfl, rfl⟩
/-- the place k is on that half, or a zero -/
def okB (C : Nat) (up : Bool) (xs : List Nat) (k : Nat) : Bool := cntB up (k / C) (k % C) || decide (cls (lim xs k) = 0)
def allB (C : Nat) (up : Bool) (xs : List Nat) : Nat → Bool
  | 0 => true
  | k + 1 => allB C up xs k && okB C up xs k
theorem allB_no {C : Nat} {up : Bool} {xs : List Nat} {k n : Nat} (h : okB C up xs k = false) (hn : k < n) : allB C up xs n = false := by
  induction n with
  | zero => omega
  | succ n ih =>
    unfold allB
    by_cases hk : k = n
    · rw [← hk, h, Bool.and_false]
    · rw [ih (by omega), Bool.false_and]
def isB (R C : Int) (m : Nat) (up : Bool) (xs : List Nat) : Bool := mayM R C m && allB C.toNat up xs (R.toNat * C.toNat)
set_option maxRecDepth 100000 in
set_option maxHeartbeats 16000000 in
theorem tri_is_yes {R C : Nat} {up : Bool} {a : Option Addr} {m cap : Nat} {xs : List Nat} {w : World} (hA : Arg w (.slice a m cap) xs) (hx : Low 18446744073709551616 xs) (hm : mayM R C m = true) :
    Calls Try.prog 29 #[.agg #[.int .i64 (R : Int), .int .i64 (C : Int), .slice a m cap], .bool up] w fun e W' => e = .returned (.bool (allB C up xs (R * C))) ∧ Below w.heap.size w W' := by
  obtain ⟨p1, p2, p3, p4, p5⟩ := mayM_iff.1 hm
  have hmn : m = R * C := by rw [← Int.natCast_mul] at p5; omega
  have hRC : R * C ≤ 64 * 64 := Nat.mul_le_mul (by omega) (by omega)
  have hRC0 : 0 < R * C := Nat.mul_pos (by omega) (by omega)
  have hxl : xs.length = m := by
    obtain ⟨a', c', e⟩ := hA.slice
    simp only [Value.slice.injEq] at e
    omega
  obtain ⟨S, off, cp, e, HX⟩ := tri_at hA (by omega)
  simp only [Value.slice.injEq] at e
  obtain ⟨rfl, -, rfl⟩ := e
  have h1 := fun w => shape_check (a := some ⟨S, off, none⟩) (m := m) (cap := cap) (R := (R : Int)) (C := (C : Int)) (w := w)
  rw [show chkM R C m = 0 by unfold chkM; rw [hm]; rfl] at h1
  have HD : Hid (∀ i j, i < R → j < C → ∃ x P Q : Nat, IntKind.i64.wrap ((i : Int) * (C : Int)) = (Q : Int) ∧ IntKind.i64.wrap ((Q : Int) + (j : Int)) = (P : Int) ∧ P < m ∧ (x : Int) ≤ 18446744073709551615 ∧ (∀ W, Below w.heap.size w W → W.cell? ⟨S, off + P, none⟩ = some (.int .u64 (x : Int))) ∧ P = i * C + j ∧ okB C up xs P = (cntB up i j || decide (cls x = 0))) := Lib.hid (fun i j hi hj => by
    have a1 := Nat.mul_le_mul_right C (show i + 1 ≤ R by omega)
    rw [Nat.add_mul, Nat.one_mul] at a1
    have hlo : lim xs (i * C + j) < 18446744073709551616 := lim_lt_low hx _
    refine ⟨lim xs (i * C + j), i * C + j, i * C, by rw [← Int.natCast_mul]; exact IntWalk.i64_in _ (by omega), by rw [← Int.natCast_add]; exact IntWalk.i64_in _ (by omega), by omega, by omega, fun W h => HX.out W h _ (by omega), rfl, ?_⟩
    unfold okB
    rw [show (i * C + j) / C = i by rw [Nat.mul_comm, Nat.mul_add_div (by omega), Nat.div_eq_of_lt hj, Nat.add_zero], show (i * C + j) % C = j by rw [Nat.mul_comm, Nat.mul_add_mod, Nat.mod_eq_of_lt hj]])
  obtain ⟨Z, hZ⟩ : ∃ z, z = allB C up xs (R * C) := ⟨_, rfl⟩
  rw [← hZ]
  have HNO : Hid (∀ P, okB C up xs P = false → P < m → Z = false) := Lib.hid (fun P h hP => by rw [hZ]; exact allB_no h (by omega))
  have HYES : Hid (allB C up xs (R * C) = true → Z = true) := Lib.hid (fun h => by rw [hZ]; exact h)
  have hR1 : R ≤ 64 := by omega
  have hC1 : C ≤ 64 := by omega
  obtain ⟨B0, G1⟩ := mbox w #[.int .i64 (R : Int), .int .i64 (C : Int), .slice (some ⟨S, off, none⟩) m cap] 24 _ rfl
  clear p1 p2 p3 p4 p5 hmn hRC hRC0 hxl HX hA hx hm hZ
  have c0 := G1.cell (i := 0) rfl
  have c1 := G1.cell (i := 1) rfl
  have c2 := G1.cell (i := 2) rfl
  go_enter Try.func29, Try.ntmps29
  go_wp2_with fail
  generalize w.alloc (.cells #[.int .i64 (R : Int), .int .i64 (C : Int), .slice (some ⟨S, off, none⟩) m cap] 24) = W0 at *
  refine (h1 _).mono ?_
  rintro e w1 ⟨rfl, b1⟩
  replace G1 := G1.behind b1
  replace B0 := below_both B0 b1
  clear c1 c2
  have c0 := G1.cell (i := 0) rfl
  go_wp2
  go_loopw [12] (fun r wr => ∃ i : Nat, i ≤ R ∧ r = .int .i64 i ∧ Hid (allB C up xs (i * C) = true) ∧ Below w1.heap.size w1 wr) (fun r _ => R - (intOf r).toNat)
  case atStart => exact ⟨0, Nat.zero_le _, rfl, Lib.hid (by rw [Nat.zero_mul]; rfl), Below.refl _ _⟩
  case round =>
    clear c0
    obtain ⟨i, hi, rfl, HI, hB⟩ := hrel
    have c1 := (G1.behind hB).cell (i := 1) rfl
    by_cases hlt : i < R
    · as_aux_lemma =>
      have q : decide ((i : Int) < (R : Int)) = true := decide_eq_true (by omega)
      have e1 : IntKind.i64.wrap ((i : Int) + 1) = ((i + 1 : Nat) : Int) := by rw [Int.natCast_add]; exact IntWalk.i64_in _ (by omega)
      go_wp2
      go_loopw [17] (fun r wr => ∃ j : Nat, j ≤ C ∧ r = .int .i64 j ∧ Hid (allB C up xs (i * C + j) = true) ∧ Below w1.heap.size w1 wr) (fun r _ => C - (intOf r).toNat)
      case atStart => exact ⟨0, Nat.zero_le _, rfl, HI, hB⟩
      case round =>
        clear hB c1
        obtain ⟨j, hj, rfl, HJ, hB⟩ := hrel
        have c1 := (G1.behind hB).cell (i := 1) rfl
        have c2 := (G1.behind hB).cell (i := 2) rfl
        by_cases hlt2 : j < C
        · obtain ⟨x, P, Q, f1, f2, f3, f4, f5, f6, f7⟩ := HD.out i j hlt hlt2
          have q2 : decide ((j : Int) < (C : Int)) = true := decide_eq_true (by omega)
          have e2 : IntKind.i64.wrap ((j : Int) + 1) = ((j + 1 : Nat) : Int) := by rw [Int.natCast_add]; exact IntWalk.i64_in _ (by omega)
          have ka := f5 _ (below_both B0 hB)
          have hk := fun w => tri_counts (i := i) (j := j) (up := up) (w := w)
          have hp := fun w => pclass (w := w) f4
          have HUP : Hid (okB C up xs P = true → allB C up xs (i * C + (j + 1)) = true) := Lib.hid (fun h => by
            rw [← Nat.add_assoc]
            unfold allB
            rw [HJ.out, ← f6, h]
            rfl)
          have H7 := Lib.hid f7
          have H3 := Lib.hid f3
          clear f4 f5 f6 f7
          cases hcb : cntB up i j
          · rw [hcb] at hk
            by_cases hc : cls x = 0
            · as_aux_lemma =>
              have HT := Lib.hid (HUP.out (by rw [H7.out, hcb, decide_eq_true hc]; rfl))
              rw [hc] at hp
              clear hc hcb
              go_wp2_with fail
              refine (hk _).mono ?_
              rintro e w2 ⟨rfl, rfl⟩
              go_wp2_with fail
              refine (hp _).mono ?_
              rintro e w2 ⟨rfl, b2⟩
              go_wp2
              exact ⟨⟨j + 1, by omega, rfl, HT, below_both hB b2⟩, by simp [intOf]; omega⟩
            · as_aux_lemma =>
              have hz := HNO.out P (by rw [H7.out, hcb, decide_eq_false hc]; rfl) H3.out
              subst hz
              generalize cls x = cx at *
              have q3 : ((cx : Int) != 0) = true := by simp; omega
              clear hcb
              go_wp2_with fail
              refine (hk _).mono ?_
              rintro e w2 ⟨rfl, rfl⟩
              go_wp2_with fail
              refine (hp _).mono ?_
              rintro e w2 ⟨rfl, b2⟩
              go_wp2
              go_ret
              exact ⟨rfl, below_both B0 (below_both hB b2)⟩
          · as_aux_lemma =>
            have HT := Lib.hid (HUP.out (by rw [H7.out, hcb]; rfl))
            rw [hcb] at hk
            clear hcb
            go_wp2_with fail
            refine (hk _).mono ?_
            rintro e w2 ⟨rfl, rfl⟩
            go_wp2
            exact ⟨⟨j + 1, by omega, rfl, HT, hB⟩, by simp [intOf]; omega⟩
        · obtain rfl : j = C := by omega
          have q2 : decide ((j : Int) < (j : Int)) = false := decide_eq_false (by omega)
          have HT : Hid (allB j up xs ((i + 1) * j) = true) := Lib.hid (by rw [Nat.add_mul, Nat.one_mul]; exact HJ.out)
          clear hlt2
          go_wp2
          exact ⟨⟨i + 1, by omega, rfl, HT, hB⟩, by simp [intOf]; omega⟩
    · as_aux_lemma =>
      obtain rfl : i = R := by omega
      have q : decide ((i : Int) < (i : Int)) = false := decide_eq_false (by omega)
      have hz := HYES.out HI.out
      subst hz
      clear hlt
      go_wp2
      go_ret
      exact ⟨rfl, below_both B0 hB⟩
set_option maxRecDepth 100000 in
theorem tri_is {R C : Int} {up : Bool} {a : Option Addr} {m cap : Nat} {xs : List Nat} {w : World} (hA : Arg w (.slice a m cap) xs) (hx : Low 18446744073709551616 xs) :
    Calls Try.prog 29 #[.agg #[.int .i64 R, .int .i64 C, .slice a m cap], .bool up] w fun e W' => e = .returned (.bool (isB R C m up xs)) ∧ Below w.heap.size w W' := by
  cases hm : mayM R C m
  · have h1 := fun w => shape_check (a := a) (m := m) (cap := cap) (R := R) (C := C) (w := w)
    rw [show chkM R C m = 11 by unfold chkM; rw [hm]; rfl] at h1
    rw [show isB R C m up xs = false by unfold isB; rw [hm]; rfl]
    obtain ⟨B0, G1⟩ := mbox w #[.int .i64 R, .int .i64 C, .slice a m cap] 24 _ rfl
    have c0 := G1.cell (i := 0) rfl
    have c1 := G1.cell (i := 1) rfl
    have c2 := G1.cell (i := 2) rfl
    clear hm hA hx
    go_enter Try.func29, Try.ntmps29
    go_wp2_with fail
    generalize w.alloc (.cells #[.int .i64 R, .int .i64 C, .slice a m cap] 24) = W0 at *
    refine (h1 _).mono ?_
    rintro e w1 ⟨rfl, b1⟩
    go_wp2
    go_ret
    exact ⟨rfl, below_both B0 b1⟩
  · obtain ⟨p1, p2, p3, p4, p5⟩ := mayM_iff.1 hm
    obtain ⟨R', rfl⟩ := Int.eq_ofNat_of_zero_le (show 0 ≤ R by omega)
    obtain ⟨C', rfl⟩ := Int.eq_ofNat_of_zero_le (show 0 ≤ C by omega)
    rw [show isB R' C' m up xs = allB C' up xs (R' * C') by unfold isB; rw [hm, Bool.true_and, Int.toNat_natCast, Int.toNat_natCast]]
    exact tri_is_yes hA hx hm
end Go.Proofs.Ytdonecohnemomaa

/- tri: Half. -/
namespace Go.Proofs.Ytdonecohnemomaa
open Go.RowKit Go.Shelf
/-- what stands in the half at place p -/
def hvN (C : Nat) (up un : Bool) (xs : List Nat) (p : Nat) : Nat := if un = true ∧ p / C = p % C then 4607182418800017408 else if cntB up (p / C) (p % C) = true then lim xs p else 0
def halfK (R C : Nat) (up un : Bool) (xs : List Nat) (N : Nat) : List Nat := upd (hvN C up un xs) (tab R C fun _ _ => 0) N
theorem tab_zero {R C k : Nat} (hk : k < R * C) : lim (tab R C fun _ _ => 0) k = 0 := by
  have h0 : 0 < C := by
    rcases Nat.eq_zero_or_pos C with e | e
    · subst e; simp at hk
    · exact e
  have h1 : k / C < R := Nat.div_lt_of_lt_mul (by rw [Nat.mul_comm]; exact hk)
  have h2 := tab_lim (R := R) (C := C) (fun _ _ => 0) h1 (Nat.mod_lt k h0)
  rwa [Nat.mul_comm, Nat.div_add_mod] at h2
theorem halfK_skip {R C k : Nat} {up un : Bool} {xs : List Nat} (hk : k < R * C) (h : hvN C up un xs k = 0) : halfK R C up un xs (k + 1) = halfK R C up un xs k := by
  unfold halfK
  rw [upd_succ, h]
  refine ext_lim (by rw [List.length_set]) fun q hq => ?_
  rw [List.length_set] at hq
  rw [lim_set]
  by_cases hqk : q = k
  · subst hqk
    rw [if_pos ⟨rfl, hq⟩, upd_at (by rw [tab_length]; exact hk), if_neg (by omega), tab_zero hk]
  · rw [if_neg (fun e => hqk e.1)]
set_option maxRecDepth 100000 in
set_option maxHeartbeats 16000000 in
theorem tri_half_yes {R C : Nat} {up un : Bool} {a : Option Addr} {m cap : Nat} {xs : List Nat} {w : World} (hA : Arg w (.slice a m cap) xs) (hm : mayM R C m = true) :
    Calls Try.prog 28 #[.agg #[.int .i64 (R : Int), .int .i64 (C : Int), .slice a m cap], .bool up, .bool un] w fun e W' => ∃ b c, e = .returned (.tuple #[.agg #[.int .i64 (R : Int), .int .i64 (C : Int), .slice b m c], .int .i64 0]) ∧ New w.heap.size W' (.slice b m c) (halfK R C up un xs (R * C)) ∧ Below w.heap.size w W' := by
  obtain ⟨p1, p2, p3, p4, p5⟩ := mayM_iff.1 hm
  have hmn : m = R * C := by rw [← Int.natCast_mul] at p5; omega
  have hRC : R * C ≤ 64 * 64 := Nat.mul_le_mul (by omega) (by omega)
  have hRC0 : 0 < R * C := Nat.mul_pos (by omega) (by omega)
  have hxl : xs.length = m := by
    obtain ⟨a', c', e⟩ := hA.slice
    simp only [Value.slice.injEq] at e
    omega
  obtain ⟨S, off, cp, e, HX⟩ := tri_at hA (by omega)
  simp only [Value.slice.injEq] at e
  obtain ⟨rfl, -, rfl⟩ := e
  have h1 := fun w => shape_check (a := some ⟨S, off, none⟩) (m := m) (cap := cap) (R := (R : Int)) (C := (C : Int)) (w := w)
  rw [show chkM R C m = 0 by unfold chkM; rw [hm]; rfl] at h1
  have hnew := fun w => shape_new (R := R) (C := C) w ⟨by omega, by omega⟩ ⟨by omega, by omega⟩
  rw [← hmn] at hnew
  obtain ⟨L, hL⟩ : ∃ f, f = halfK R C up un xs := ⟨_, rfl⟩
  have HL0 : Hid (tab R C (fun _ _ => 0) = L 0) := Lib.hid (by rw [hL]; exact (upd_zero _ _).symm)
  have HLL : Hid (∀ k, (zn (L k)).length = m) := Lib.hid (fun k => by rw [zn_length, hL]; unfold halfK; rw [upd_length, tab_length]; exact hmn.symm)
  have HD : Hid (∀ i j, i < R → j < C → ∃ x P Q : Nat, IntKind.i64.wrap ((i : Int) * (C : Int)) = (Q : Int) ∧ IntKind.i64.wrap ((Q : Int) + (j : Int)) = (P : Int) ∧ P < m ∧ P = i * C + j ∧ (∀ W, Below w.heap.size w W → W.cell? ⟨S, off + P, none⟩ = some (.int .u64 (x : Int))) ∧ ((un = true ∧ i = j ∧ zn (L (P + 1)) = (zn (L P)).set P 4607182418800017408) ∨ (¬ (un = true ∧ i = j) ∧ cntB up i j = true ∧ zn (L (P + 1)) = (zn (L P)).set P (x : Int)) ∨ (¬ (un = true ∧ i = j) ∧ cntB up i j = false ∧ L (P + 1) = L P))) := Lib.hid (fun i j hi hj => by
    have a1 := Nat.mul_le_mul_right C (show i + 1 ≤ R by omega)
    rw [Nat.add_mul, Nat.one_mul] at a1
    refine ⟨lim xs (i * C + j), i * C + j, i * C, by rw [← Int.natCast_mul]; exact IntWalk.i64_in _ (by omega), by rw [← Int.natCast_add]; exact IntWalk.i64_in _ (by omega), by omega, rfl, fun W h => HX.out W h _ (by omega), ?_⟩
    have d1 : (i * C + j) / C = i := by rw [Nat.mul_comm, Nat.mul_add_div (by omega), Nat.div_eq_of_lt hj, Nat.add_zero]
    have d2 : (i * C + j) % C = j := by rw [Nat.mul_comm, Nat.mul_add_mod, Nat.mod_eq_of_lt hj]
    have hv : hvN C up un xs (i * C + j) = if un = true ∧ i = j then 4607182418800017408 else if cntB up i j = true then lim xs (i * C + j) else 0 := by unfold hvN; rw [d1, d2]
    by_cases hu : un = true ∧ i = j
    · refine .inl ⟨hu.1, hu.2, ?_⟩
      rw [if_pos hu] at hv
      rw [hL]
      unfold halfK
      rw [upd_succ, zn_set, hv]
      rfl
    · rw [if_neg hu] at hv
      cases hc : cntB up i j
      · rw [hc, if_neg (by decide)] at hv
        exact .inr (.inr ⟨hu, rfl, by rw [hL]; exact halfK_skip (by omega) hv⟩)
      · rw [hc, if_pos rfl] at hv
        refine .inr (.inl ⟨hu, rfl, ?_⟩)
        rw [hL]
        unfold halfK
        rw [upd_succ, zn_set, hv])
  have HEND : Hid (L (R * C) = halfK R C up un xs (R * C)) := Lib.hid (by rw [hL])
  obtain ⟨Z, hZ⟩ : ∃ z, z = halfK R C up un xs (R * C) := ⟨_, rfl⟩
  rw [← hZ] at HEND
  rw [← hZ]
  have hR1 : R ≤ 64 := by omega
  have hC1 : C ≤ 64 := by omega
  have hm0 : 0 < m := by omega
  have hlt0 : (zn (tab R C fun _ _ => 0)).length = m := by rw [zn_length, tab_length]; exact hmn.symm
  obtain ⟨B0, G1, G2, hw0⟩ := vboxm w #[.int .i64 (R : Int), .int .i64 (C : Int), .slice (some ⟨S, off, none⟩) m cap] #[.int .i64 0, .int .i64 0, .slice none 0 0] 24 24 _ rfl
  clear p1 p2 p3 p4 p5 hmn hRC hRC0 hxl HX hA hm hZ hL hw0
  have c0 := G1.cell (i := 0) rfl
  have c1 := G1.cell (i := 1) rfl
  have c2 := G1.cell (i := 2) rfl
  go_enter Try.func28, Try.ntmps28
  go_wp2_with fail
  generalize (w.alloc (.cells #[.int .i64 (R : Int), .int .i64 (C : Int), .slice (some ⟨S, off, none⟩) m cap] 24)).alloc (.cells #[.int .i64 0, .int .i64 0, .slice none 0 0] 24) = W0 at *
  refine (h1 _).mono ?_
  rintro e w1 ⟨rfl, b1⟩
  replace G1 := G1.behind b1
  replace G2 := G2.behind b1
  replace B0 := below_both B0 b1
  clear c0 c1 c2
  have c0 := G1.cell (i := 0) rfl
  have c1 := G1.cell (i := 1) rfl
  go_wp2_with fail
  refine (hnew _).mono ?_
  rintro e w2 ⟨bn, c2, rfl, hO, b2⟩
  obtain ⟨g, cg, eg, hg1, hg2⟩ := hO.form (by rw [hlt0]; exact hm0)
  simp only [Value.slice.injEq] at eg
  obtain ⟨rfl, -, -⟩ := eg
  have n1 := G1.lt
  have n2 := G2.lt
  have n3 := B0.size
  obtain ⟨b3, G3⟩ := mbox w2 #[.int .i64 (R : Int), .int .i64 (C : Int), .slice (some ⟨g, 0, none⟩) m c2] 24 _ rfl
  replace G1 := (G1.behind b2).behind b3
  replace G2 := (G2.behind b2).behind b3
  replace hO := hO.below b3
  rw [HL0.out] at hO
  replace B0 := below_both B0 (below_both b2 b3)
  have HW1 : Hid (w.heap.size + 1 < w1.heap.size ∧ w.heap.size ≤ w1.heap.size) := Lib.hid ⟨n2, by omega⟩
  have N1 : Hid (w.heap.size ≠ g ∧ w.heap.size + 1 ≠ g ∧ w2.heap.size ≠ g ∧ w.heap.size ≤ g) := Lib.hid ⟨by omega, by omega, by omega, by omega⟩
  clear c0 c1 b1 b2 b3 hg1 hg2 n1 n2 n3 hlt0
  have c0 := G1.cell (i := 0) rfl
  go_wp2
  generalize w2.alloc (.cells #[.int .i64 (R : Int), .int .i64 (C : Int), .slice (some ⟨g, 0, none⟩) m c2] 24) = w3 at *
  go_loopw [30] (fun r wr => ∃ i : Nat, i ≤ R ∧ r = .int .i64 i ∧ OwnK .u64 32 w1.heap.size wr (.slice (some ⟨g, 0, none⟩) m c2) (zn (L (i * C))) ∧ Ms wr w.heap.size #[.int .i64 (R : Int), .int .i64 (C : Int), .slice (some ⟨S, off, none⟩) m cap] 24 ∧ Ms wr (w.heap.size + 1) #[.int .i64 0, .int .i64 0, .slice none 0 0] 24 ∧ Ms wr w2.heap.size #[.int .i64 (R : Int), .int .i64 (C : Int), .slice (some ⟨g, 0, none⟩) m c2] 24 ∧ Below w.heap.size w wr) (fun r _ => R - (intOf r).toNat)
  case atStart => exact ⟨0, Nat.zero_le _, rfl, by rw [Nat.zero_mul]; exact hO, G1, G2, G3, B0⟩
  case round =>
    clear c0 hO G1 G2 G3 B0
    obtain ⟨i, hi, rfl, hO, K1, K2, K3, BW⟩ := hrel
    have c0 := K1.cell (i := 0) rfl
    have c1 := K1.cell (i := 1) rfl
    by_cases hlt : i < R
    · as_aux_lemma =>
      have q : decide ((i : Int) < (R : Int)) = true := decide_eq_true (by omega)
      have e1 : IntKind.i64.wrap ((i : Int) + 1) = ((i + 1 : Nat) : Int) := by rw [Int.natCast_add]; exact IntWalk.i64_in _ (by omega)
      go_wp2
      go_loopw [35] (fun r wr => ∃ j : Nat, j ≤ C ∧ r = .int .i64 j ∧ OwnK .u64 32 w1.heap.size wr (.slice (some ⟨g, 0, none⟩) m c2) (zn (L (i * C + j))) ∧ Ms wr w.heap.size #[.int .i64 (R : Int), .int .i64 (C : Int), .slice (some ⟨S, off, none⟩) m cap] 24 ∧ Ms wr (w.heap.size + 1) #[.int .i64 0, .int .i64 0, .slice none 0 0] 24 ∧ Ms wr w2.heap.size #[.int .i64 (R : Int), .int .i64 (C : Int), .slice (some ⟨g, 0, none⟩) m c2] 24 ∧ Below w.heap.size w wr) (fun r _ => C - (intOf r).toNat)
      case atStart => exact ⟨0, Nat.zero_le _, rfl, hO, K1, K2, K3, BW⟩
      case round =>
        clear c0 c1 hO K1 K2 K3 BW
        obtain ⟨j, hj, rfl, hO, K1, K2, K3, BW⟩ := hrel
        have c1 := K1.cell (i := 1) rfl
        by_cases hlt2 : j < C
        · obtain ⟨x, P, Q, f1, f2, f3, f4, f5, f6⟩ := HD.out i j hlt hlt2
          have q2 : decide ((j : Int) < (C : Int)) = true := decide_eq_true (by omega)
          have e2 : IntKind.i64.wrap ((j : Int) + 1) = ((j + 1 : Nat) : Int) := by rw [Int.natCast_add]; exact IntWalk.i64_in _ (by omega)
          have ka := f5 _ BW
          have c2' := K1.cell (i := 2) rfl
          have k2 := K3.cell (i := 2) rfl
          rw [← f4] at hO
          have hcl := hO.cell (j := P) (by rw [HLL.out]; exact f3)
          have hfz := hO.frozen P
          have hk := fun w => tri_counts (i := i) (j := j) (up := up) (w := w)
          have HP : Hid (i * C + (j + 1) = P + 1) := Lib.hid (by omega)
          clear f4 f5
          rcases f6 with ⟨rfl, rfl, hs⟩ | ⟨hno, hc, hs⟩ | ⟨hno, hc, hs⟩
          · as_aux_lemma =>
            have HS := Lib.hid hs
            clear hs hk
            go_wp2
            exact ⟨⟨i + 1, by omega, rfl, by rw [HP.out, HS.out]; exact hO.set P _, K1.put (p := ⟨g, _, none⟩) N1.out.1 _, K2.put (p := ⟨g, _, none⟩) N1.out.2.1 _, K3.put (p := ⟨g, _, none⟩) N1.out.2.2.1 _, BW.setCell (p := ⟨g, _, none⟩) N1.out.2.2.2 _⟩, by simp [intOf]; omega⟩
          · have HS := Lib.hid hs
            rw [hc] at hk
            clear hs hc
            cases un
            · as_aux_lemma =>
              go_wp2_with fail
              refine (hk _).mono ?_
              rintro e w4 ⟨rfl, rfl⟩
              go_wp2
              go_region_with (fail)
              all_goals
                go_wp2
                exact ⟨⟨j + 1, by omega, rfl, by rw [HP.out, HS.out]; exact OwnK.set (W := wr.drewN _) hO P _, (show Ms (wr.drewN _) _ _ _ from K1).put (p := ⟨g, _, none⟩) N1.out.1 _, (show Ms (wr.drewN _) _ _ _ from K2).put (p := ⟨g, _, none⟩) N1.out.2.1 _, (show Ms (wr.drewN _) _ _ _ from K3).put (p := ⟨g, _, none⟩) N1.out.2.2.1 _, (below_both BW (below_drewN _ _ _)).setCell (p := ⟨g, _, none⟩) N1.out.2.2.2 _⟩, by simp [intOf]; omega⟩
            · as_aux_lemma =>
              have hij : ¬ i = j := fun h => hno ⟨rfl, h⟩
              have q3 : ((i : Int) == (j : Int)) = false := by simp; omega
              go_wp2_with fail
              refine (hk _).mono ?_
              rintro e w4 ⟨rfl, rfl⟩
              go_wp2
              go_region_with (fail)
              all_goals
                go_wp2
                exact ⟨⟨j + 1, by omega, rfl, by rw [HP.out, HS.out]; exact OwnK.set (W := wr.drewN _) hO P _, (show Ms (wr.drewN _) _ _ _ from K1).put (p := ⟨g, _, none⟩) N1.out.1 _, (show Ms (wr.drewN _) _ _ _ from K2).put (p := ⟨g, _, none⟩) N1.out.2.1 _, (show Ms (wr.drewN _) _ _ _ from K3).put (p := ⟨g, _, none⟩) N1.out.2.2.1 _, (below_both BW (below_drewN _ _ _)).setCell (p := ⟨g, _, none⟩) N1.out.2.2.2 _⟩, by simp [intOf]; omega⟩
          · have HS := Lib.hid hs
            rw [hc] at hk
            clear hs hc
            cases un
            · as_aux_lemma =>
              go_wp2_with fail
              refine (hk _).mono ?_
              rintro e w4 ⟨rfl, rfl⟩
              go_wp2
              exact ⟨⟨j + 1, by omega, rfl, by rw [HP.out, HS.out]; exact hO, K1, K2, K3, BW⟩, by simp [intOf]; omega⟩
            · as_aux_lemma =>
              have hij : ¬ i = j := fun h => hno ⟨rfl, h⟩
              have q3 : ((i : Int) == (j : Int)) = false := by simp; omega
              go_wp2_with fail
              refine (hk _).mono ?_
              rintro e w4 ⟨rfl, rfl⟩
              go_wp2
              exact ⟨⟨j + 1, by omega, rfl, by rw [HP.out, HS.out]; exact hO, K1, K2, K3, BW⟩, by simp [intOf]; omega⟩
        · obtain rfl : j = C := by omega
          have q2 : decide ((j : Int) < (j : Int)) = false := decide_eq_false (by omega)
          have HT : Hid (i * j + j = (i + 1) * j) := Lib.hid (by rw [Nat.add_mul, Nat.one_mul])
          clear hlt2
          go_wp2
          exact ⟨⟨i + 1, by omega, rfl, by rw [← HT.out]; exact hO, K1, K2, K3, BW⟩, by simp [intOf]; omega⟩
    · as_aux_lemma =>
      obtain rfl : i = R := by omega
      have q : decide ((i : Int) < (i : Int)) = false := decide_eq_false (by omega)
      rw [HEND.out] at hO
      have HN := Lib.hid (new_zn.2 (hO.new (by have := K1.lt; omega)))
      have k0 := K3.cell (i := 0) rfl
      have k1 := K3.cell (i := 1) rfl
      have k2 := K3.cell (i := 2) rfl
      have g0 := K2.cell (i := 0) rfl
      have g1 := K2.cell (i := 1) rfl
      have g2 := K2.cell (i := 2) rfl
      have f0 := K2.f 0
      have f1 := K2.f 1
      have f2 := K2.f 2
      have HB := Lib.hid BW
      clear hO hlt K1 K2 K3 BW
      go_wp2
      exact bodyPost_ret (v := .tuple #[.agg #[.int .i64 (i : Int), .int .i64 (C : Int), .slice (some ⟨g, 0, none⟩) m c2], .int .i64 0]) (by simp [results, Try.results28, go_sem, g0, g1, g2]) rfl
        ⟨some ⟨g, 0, none⟩, c2, rfl, (HN.out.put3 HW1.out.1 _ _ _).lower HW1.out.2, HB.out.put3 (by omega) _ _ _⟩
theorem tri_half_no {R C : Int} {up un : Bool} {a : Option Addr} {m cap : Nat} {w : World} (hm : mayM R C m = false) :
    Calls Try.prog 28 #[.agg #[.int .i64 R, .int .i64 C, .slice a m cap], .bool up, .bool un] w fun e W' => e = .returned (.tuple #[.agg #[.int .i64 0, .int .i64 0, .slice none 0 0], .int .i64 11]) ∧ Below w.heap.size w W' := by
  have h1 := fun w => shape_check (a := a) (m := m) (cap := cap) (R := R) (C := C) (w := w)
  rw [show chkM R C m = 11 by unfold chkM; rw [hm]; rfl] at h1
  obtain ⟨B0, G1, G2, hw0⟩ := vboxm w #[.int .i64 R, .int .i64 C, .slice a m cap] #[.int .i64 0, .int .i64 0, .slice none 0 0] 24 24 _ rfl
  have c0 := G1.cell (i := 0) rfl
  have c1 := G1.cell (i := 1) rfl
  have c2 := G1.cell (i := 2) rfl
  clear hm hw0
  go_enter Try.func28, Try.ntmps28
  go_wp2_with fail
  generalize (w.alloc (.cells #[.int .i64 R, .int .i64 C, .slice a m cap] 24)).alloc (.cells #[.int .i64 0, .int .i64 0, .slice none 0 0] 24) = W0 at *
  refine (h1 _).mono ?_
  rintro e w1 ⟨rfl, b1⟩
  have K := G2.behind b1
  have g0 := K.cell (i := 0) rfl
  have g1 := K.cell (i := 1) rfl
  have g2 := K.cell (i := 2) rfl
  have f0 := K.f 0
  have f1 := K.f 1
  have f2 := K.f 2
  have HB := Lib.hid (below_both B0 b1)
  clear G1 G2 K b1 c0 c1 c2
  go_wp2
  exact bodyPost_ret (v := .tuple #[.agg #[.int .i64 0, .int .i64 0, .slice none 0 0], .int .i64 11]) (by simp [results, Try.results28, go_sem, g0, g1, g2]) rfl ⟨rfl, HB.out.put3 (by omega) _ _ _⟩
theorem tri_half {R C : Int} {up un : Bool} {a : Option Addr} {m cap : Nat} {xs : List Nat} {w : World} (hA : Arg w (.slice a m cap) xs) :
    Calls Try.prog 28 #[.agg #[.int .i64 R, .int .i64 C, .slice a m cap], .bool up, .bool un] w fun e W' => ∃ R3 C3 b n c, e = .returned (.tuple #[.agg #[.int .i64 R3, .int .i64 C3, .slice b n c], .int .i64 (if mayM R C m then 0 else 11)]) ∧ New w.heap.size W' (.slice b n c) (if mayM R C m then halfK R.toNat C.toNat up un xs (R.toNat * C.toNat) else []) ∧ (mayM R C m = true → R3 = R ∧ C3 = C) ∧ Below w.heap.size w W' := by
  have hpos : 0 < w.heap.size := by obtain ⟨S, hS, _⟩ := hA; omega
  cases hm : mayM R C m
  · refine (tri_half_no hm).mono ?_
    rintro e W' ⟨rfl, hb⟩
    exact ⟨0, 0, none, 0, 0, rfl, new_nil _ hpos hb, fun h => absurd h (by decide), hb⟩
  · obtain ⟨p1, p2, p3, p4, p5⟩ := mayM_iff.1 hm
    obtain ⟨R', rfl⟩ := Int.eq_ofNat_of_zero_le (show 0 ≤ R by omega)
    obtain ⟨C', rfl⟩ := Int.eq_ofNat_of_zero_le (show 0 ≤ C by omega)
    refine (tri_half_yes hA hm).mono ?_
    rintro e W' ⟨b, c, rfl, hN, hb⟩
    refine ⟨R', C', b, _, c, rfl, ?_, fun _ => ⟨rfl, rfl⟩, hb⟩
    rw [if_pos rfl, Int.toNat_natCast, Int.toNat_natCast]
    exact hN
end Go.Proofs.Ytdonecohnemomaa
