/- perm: Rows. -/
import Derived.Test.YtgppbimbampenaaPeThen
import Derived.Test.YtgppbimbampenaaOAp
import Derived.Test.YtgppbimbampenaaShMake
namespace Go.Proofs.Ytgppbimbampenaa
open Go.RowKit Go.Shelf
def rowsE (R C : Int) (m : Nat) (ps : List Int) : Int := if chkM R C m ≠ 0 then chkM R C m else if chkP ps ≠ 0 then chkP ps else if (ps.length : Int) ≠ R then 11 else 0
/-- the word at a place of what is put in order -/
def rowG (xs : List Nat) (C : Nat) (ps : List Int) (i j : Nat) : Nat := lim xs ((zat ps i).toNat * C + j)
theorem pre_row {C k : Nat} (g : Nat → Nat → Nat) (xs : List Nat) (o : Nat) (h : ∀ j, j < C → g k j = lim xs (o + j)) (n : Nat) (hn : n ≤ C) : pre C g (k * C) ++ partW xs o n = pre C g (k * C + n) := by
  induction n with
  | zero => simp [partW]
  | succ n ih =>
    have e : partW xs o (n + 1) = partW xs o n ++ [lim xs (o + n)] := by
      unfold partW; rw [List.range_succ, List.map_append, List.map_singleton]
    rw [e, ← List.append_assoc, ih (by omega), ← h n (by omega), ← pre_snoc (C := C) (i := k) g (by omega)]
    rfl
theorem chkM_ways (R C : Int) (m : Nat) : (mayM R C m = true ∧ chkM R C m = 0) ∨ (mayM R C m = false ∧ chkM R C m = 11) := by
  unfold chkM
  cases mayM R C m
  · right; exact ⟨rfl, rfl⟩
  · left; exact ⟨rfl, rfl⟩
theorem mayM_iff' {R C : Int} {m : Nat} (h : mayM R C m = true) : 1 ≤ R ∧ R ≤ 64 ∧ 1 ≤ C ∧ C ≤ 64 ∧ (m : Int) = R * C := by
  simpa [mayM, and_assoc] using h
set_option maxRecDepth 100000 in
set_option maxHeartbeats 8000000 in
theorem perm_rows {R C m : Nat} {a : Option Addr} {cap : Nat} {v : Value} {xs : List Nat} {ps : List Int} {w : World} (hA : Arg w (.slice a m cap) xs) (hP : ArgK .i64 w v ps) (hpn : ps.length ≤ 17592186044416) (hm : mayM R C m = true) (hp : permB ps = true) (hl : ps.length = R) :
    Calls Try.prog 27 #[.agg #[.int .i64 (R : Int), .int .i64 (C : Int), .slice a m cap], v] w fun e W' => ∃ b c, e = .returned (.tuple #[.agg #[.int .i64 (R : Int), .int .i64 (C : Int), .slice b (R * C) c], .int .i64 0]) ∧ New w.heap.size W' (.slice b (R * C) c) (tab R C (rowG xs C ps)) ∧ Below w.heap.size w W' := by
  have hk := fun w => shape_check (R := (R : Int)) (C := (C : Int)) (a := a) (m := m) (cap := cap) (w := w)
  rw [show chkM R C m = 0 by unfold chkM; rw [hm]; rfl] at hk
  have hc := fun (W : World) (h : Below w.heap.size w W) => perm_check (hP.behind h)
  rw [chkP_perm.2 hp] at hc
  obtain ⟨q1, q2, q3, q4, q5⟩ := mayM_iff' hm
  have hmn : m = R * C := by rw [← Int.natCast_mul] at q5; omega
  have hxl : m = xs.length := by
    obtain ⟨a', c', e⟩ := hA.slice
    simp only [Value.slice.injEq] at e
    omega
  have hrc : R * C ≤ 4096 := by have := Nat.mul_le_mul (show R ≤ 64 by omega) (show C ≤ 64 by omega); omega
  have hg := (permB_iff.1 hp).2
  have HZ : Hid (∀ k, k < R → 0 ≤ zat ps k ∧ zat ps k < R) := Lib.hid (fun k hk => by have := (hg k (by omega)).1; omega)
  have hmk := make0_u64 m (by omega)
  have HOWN := Lib.hid (own0_u64 m (by omega))
  obtain ⟨S, a', c', hS, e, hcap, HA⟩ := hA.opened
  simp only [Value.slice.injEq] at e
  obtain ⟨rfl, -, rfl⟩ := e
  have ha0 : ∃ off, a = some ⟨S, off, none⟩ := by
    have : 0 < m := by rw [hmn]; exact Nat.mul_pos (by omega) (by omega)
    obtain ⟨off, e, _⟩ := HA.out w (Below.refl _ _) 0 (by omega)
    exact ⟨off, e⟩
  obtain ⟨off, rfl⟩ := ha0
  have HAR := Lib.hid hA
  have hcap2 : R * C ≤ cap := by omega
  obtain ⟨T, b1, c1, hT, rfl, hc1, HB⟩ := hP.opened
  obtain ⟨B, G1, G2, hw0⟩ := vboxm w #[.int .i64 (R : Int), .int .i64 (C : Int), .slice (some ⟨S, off, none⟩) m cap] #[.int .i64 0, .int .i64 0, .slice none 0 0] 41 41 _ rfl
  have c00 := G1.cell (i := 0) rfl
  have c01 := G1.cell (i := 1) rfl
  have c02 := G1.cell (i := 2) rfl
  have HMN := Lib.hid hmn
  have HXL := Lib.hid hxl
  rw [hl] at HB hc ⊢
  have HRC := Lib.hid hrc
  have HCP := Lib.hid hcap2
  have hm64 : (m : Int) ≤ 4096 := by omega
  clear hg hm hp hcap hc1 hxl q5 hA hP hmn hrc hcap2 hl
  go_enter Try.func27, Try.ntmps27
  go_wp2_with fail
  generalize (w.alloc (.cells #[.int .i64 (R : Int), .int .i64 (C : Int), .slice (some ⟨S, off, none⟩) m cap] 41)).alloc (.cells #[.int .i64 0, .int .i64 0, .slice none 0 0] 41) = W0 at *
  refine (hk _).mono ?_
  rintro e w1 ⟨rfl, b1⟩
  clear hk
  replace B := below_both B b1
  replace G1 := G1.behind b1
  replace G2 := G2.behind b1
  replace hw0 := Nat.lt_of_lt_of_le hw0 b1.size
  go_wp2_with fail
  refine (hc _ B).mono ?_
  rintro e w2 ⟨rfl, b2⟩
  clear hc
  replace B := below_both B b2
  replace G1 := G1.behind b2
  replace G2 := G2.behind b2
  replace hw0 := Nat.lt_of_lt_of_le hw0 b2.size
  have c00 := G1.cell (i := 0) rfl
  have c02 := G1.cell (i := 2) rfl
  have hm1 := hmk w2
  have hown1 := HOWN.out w2
  have hB1 := newb w2 (.cells (madeCells #[.int .u64 0] m) 57)
  have HSZ : Hid (w2.heap.size < (w2.alloc (.cells (madeCells #[.int .u64 0] m) 57)).heap.size) := Lib.hid (by rw [World.size_alloc]; omega)
  have dR : (R != R) = false := by simp
  clear hmk b1 b2
  go_wp2
  clear hm1
  generalize w2.alloc (.cells (madeCells #[.int .u64 0] m) 57) = W1 at *
  have HBW := Lib.hid (show ∀ wr, Below w2.heap.size w2 wr → Below w.heap.size w wr from fun wr h => below_both B h)
  go_loopw [8, 35] (fun d i wr => ∃ k : Nat, k ≤ R ∧ i = .int .i64 k ∧ OwnK .u64 57 w2.heap.size wr d (zn (pre C (rowG xs C ps) (k * C))) ∧ Below w2.heap.size w2 wr) (fun _ i _ => R - (intOf i).toNat)
  case atStart => exact ⟨0, Nat.zero_le _, rfl, by rw [Nat.zero_mul]; exact hown1, hB1⟩
  case round =>
    obtain ⟨k, hk, rfl, ho, hB⟩ := hrel
    by_cases hlt : k < R
    · obtain ⟨ob, rfl, kb⟩ := HB.out wr (HBW.out _ hB) k hlt
      have hz := HZ.out k hlt
      obtain ⟨r, hr⟩ : ∃ r : Nat, zat ps k = (r : Int) := ⟨(zat ps k).toNat, by omega⟩
      have hrR : r < R := by omega
      have HS : Hid (pre C (rowG xs C ps) (k * C) ++ partW xs (r * C) C = pre C (rowG xs C ps) ((k + 1) * C)) := Lib.hid (by
        rw [Nat.add_mul, Nat.one_mul]
        exact pre_row _ xs (r * C) (fun j _ => by unfold rowG; rw [hr, Int.toNat_natCast]) C (Nat.le_refl _))
      have hrc := HRC.out
      have hcap2 := HCP.out
      have hrc1 : r * C + C ≤ R * C := by
        have := Nat.mul_le_mul_right C (show r + 1 ≤ R from hrR)
        rw [Nat.add_mul, Nat.one_mul] at this
        exact this
      have hkc1 : k * C + C ≤ R * C := by
        have := Nat.mul_le_mul_right C (show k + 1 ≤ R from hlt)
        rw [Nat.add_mul, Nat.one_mul] at this
        exact this
      rw [hr] at kb hz
      have c01 := (G1.behind hB).cell (i := 1) rfl
      have c02 := (G1.behind hB).cell (i := 2) rfl
      obtain ⟨P, hP⟩ : ∃ P, P = r * C := ⟨_, rfl⟩
      obtain ⟨Q, hQ⟩ : ∃ Q, Q = r * C + C := ⟨_, rfl⟩
      have HAP := Lib.hid ((HAR.out.behind (HBW.out _ hB)).part (o := P) (k := C) (cap' := cap - P) (by rw [← HXL.out, HMN.out, hP]; exact hrc1) (by omega))
      have e1 : IntKind.i64.wrap ((r : Int) * (C : Int)) = (P : Int) := by rw [← Int.natCast_mul, ← hP]; exact IntWalk.i64_in _ (by omega)
      have e2 : IntKind.i64.wrap (((r : Int) + 1) * (C : Int)) = (Q : Int) := by
        rw [show ((r : Int) + 1) * (C : Int) = (Q : Int) by rw [Int.add_mul, Int.one_mul, ← Int.natCast_mul, hQ, Int.natCast_add]]
        exact IntWalk.i64_in _ (by omega)
      have g1 : (P : Int) ≤ (Q : Int) := by omega
      have g2 : (Q : Int) ≤ (cap : Int) := by omega
      have g3 : Q - P = C := by omega
      have g4 : P ≤ cap := by omega
      rw [← hP] at HS
      have hr1 : (r : Int) ≤ 63 := by omega
      have hlen : (zn (pre C (rowG xs C ps) (k * C))).length + (partW xs P C).length ≤ 17592186044416 := by rw [zn_length, pre_length, partW_length]; omega
      have hbs := hB.size
      clear hz hr hP hQ hrc1 hkc1 hrc hcap2
      go_wp2_with (at_builtin; refine app_list rfl _ _ rfl rfl rfl HAP.out (.inr ⟨_, _, _, rfl⟩) ho hlen hbs ?_; intro v' w3 ho3 b3)
      go_roundw
      case rel => exact ⟨k + 1, by omega, by simp, by rw [← HS.out]; simpa [zn] using ho3, hB.trans b3⟩
      case measure => simp [intOf]; omega
    · obtain rfl : k = R := by omega
      clear hlt
      have hnew := new_zn.2 (ho.new (Nat.lt_of_le_of_lt (Nat.zero_le _) (Nat.lt_of_lt_of_le hw0 hB.size)))
      obtain ⟨a1, c1, hd⟩ := ho.len
      rw [zn_length, pre_length] at hd
      subst hd
      have G3 := G1.behind hB
      have c00 := G3.cell (i := 0) rfl
      have c01 := G3.cell (i := 1) rfl
      have G4 := G2.behind hB
      have g0 := G4.cell (i := 0) rfl
      have g1 := G4.cell (i := 1) rfl
      have g2 := G4.cell (i := 2) rfl
      have f0 := G4.f 0
      have f1 := G4.f 1
      have f2 := G4.f 2
      have HNEW : Hid (New w2.heap.size wr (.slice a1 (k * C) c1) (tab k C (rowG xs C ps))) := Lib.hid hnew
      have HBB := Lib.hid (below_both B hB)
      have HB0 := Lib.hid B.size
      clear hnew ho hown1
      go_wp2
      exact bodyPost_ret (v := .tuple #[.agg #[.int .i64 (k : Int), .int .i64 (C : Int), .slice a1 (k * C) c1], .int .i64 0]) (by simp [results, Try.results27, go_sem, g0, g1, g2]) rfl
        ⟨_, _, rfl, (HNEW.out.put3 hw0 _ _ _).lower HB0.out, HBB.out.put3 (by omega) _ _ _⟩
/-- where there is none -/
theorem perm_rows_no {R C : Int} {m : Nat} {a : Option Addr} {cap : Nat} {v : Value} {ps : List Int} {w : World} (hP : ArgK .i64 w v ps) (hno : rowsE R C m ps ≠ 0) :
    Calls Try.prog 27 #[.agg #[.int .i64 R, .int .i64 C, .slice a m cap], v] w fun e W' => e = .returned (.tuple #[.agg #[.int .i64 0, .int .i64 0, .slice none 0 0], .int .i64 (rowsE R C m ps)]) ∧ Below w.heap.size w W' := by
  have hk := fun w => shape_check (R := R) (C := C) (a := a) (m := m) (cap := cap) (w := w)
  have hc := fun (W : World) (h : Below w.heap.size w W) => perm_check (hP.behind h)
  obtain ⟨T, b1, c1, hT, rfl, hc1, HB⟩ := hP.opened
  obtain ⟨B, G1, G2, hw0⟩ := vboxm w #[.int .i64 R, .int .i64 C, .slice a m cap] #[.int .i64 0, .int .i64 0, .slice none 0 0] 41 41 _ rfl
  have c00 := G1.cell (i := 0) rfl
  have c01 := G1.cell (i := 1) rfl
  have c02 := G1.cell (i := 2) rfl
  have hways : chkM R C m ≠ 0 ∧ rowsE R C m ps = chkM R C m ∨ chkM R C m = 0 ∧ chkP ps ≠ 0 ∧ rowsE R C m ps = chkP ps ∨ chkM R C m = 0 ∧ chkP ps = 0 ∧ (ps.length : Int) ≠ R ∧ rowsE R C m ps = 11 := by
    unfold rowsE at hno ⊢
    by_cases h1 : chkM R C m = 0
    · by_cases h2 : chkP ps = 0
      · by_cases h3 : (ps.length : Int) = R
        · rw [if_neg (by simp [h1]), if_neg (by simp [h2]), if_neg (by simp [h3])] at hno; exact absurd rfl hno
        · right; right; exact ⟨h1, h2, h3, by rw [if_neg (by simp [h1]), if_neg (by simp [h2]), if_pos h3]⟩
      · right; left; exact ⟨h1, h2, by rw [if_neg (by simp [h1]), if_pos h2]⟩
    · left; exact ⟨h1, by rw [if_pos h1]⟩
  clear hno hP hc1
  generalize rowsE R C m ps = E at *
  generalize chkM R C m = ck at *
  generalize chkP ps = cp at *
  generalize ps.length = n at *
  rcases hways with ⟨h1, rfl⟩ | ⟨rfl, h2, rfl⟩ | ⟨rfl, rfl, h3, rfl⟩
  · have d : (E != 0) = true := bne_iff_ne.2 h1
    clear h1
    go_enter Try.func27, Try.ntmps27
    go_wp2_with fail
    generalize (w.alloc (.cells #[.int .i64 R, .int .i64 C, .slice a m cap] 41)).alloc (.cells #[.int .i64 0, .int .i64 0, .slice none 0 0] 41) = W0 at *
    refine (hk _).mono ?_
    rintro e w1 ⟨rfl, b1⟩
    have G4 := G2.behind b1
    have g0 := G4.cell (i := 0) rfl
    have g1 := G4.cell (i := 1) rfl
    have g2 := G4.cell (i := 2) rfl
    have f0 := G4.f 0
    have f1 := G4.f 1
    have f2 := G4.f 2
    go_wp2
    exact bodyPost_ret (v := .tuple #[.agg #[.int .i64 0, .int .i64 0, .slice none 0 0], .int .i64 E]) (by simp [results, Try.results27, go_sem, g0, g1, g2]) rfl
      ⟨rfl, (below_both B b1).put3 (by omega) _ _ _⟩
  · have d : (E != 0) = true := bne_iff_ne.2 h2
    clear h2
    go_enter Try.func27, Try.ntmps27
    go_wp2_with fail
    generalize (w.alloc (.cells #[.int .i64 R, .int .i64 C, .slice a m cap] 41)).alloc (.cells #[.int .i64 0, .int .i64 0, .slice none 0 0] 41) = W0 at *
    refine (hk _).mono ?_
    rintro e w1 ⟨rfl, b1⟩
    replace B := below_both B b1
    replace G2 := G2.behind b1
    go_wp2_with fail
    refine (hc _ B).mono ?_
    rintro e w2 ⟨rfl, b1⟩
    have G4 := G2.behind b1
    have g0 := G4.cell (i := 0) rfl
    have g1 := G4.cell (i := 1) rfl
    have g2 := G4.cell (i := 2) rfl
    have f0 := G4.f 0
    have f1 := G4.f 1
    have f2 := G4.f 2
    go_wp2
    exact bodyPost_ret (v := .tuple #[.agg #[.int .i64 0, .int .i64 0, .slice none 0 0], .int .i64 E]) (by simp [results, Try.results27, go_sem, g0, g1, g2]) rfl
      ⟨rfl, (below_both B b1).put3 (by omega) _ _ _⟩
  · have d : ((n : Int) != R) = true := bne_iff_ne.2 h3
    clear h3
    go_enter Try.func27, Try.ntmps27
    go_wp2_with fail
    generalize (w.alloc (.cells #[.int .i64 R, .int .i64 C, .slice a m cap] 41)).alloc (.cells #[.int .i64 0, .int .i64 0, .slice none 0 0] 41) = W0 at *
    refine (hk _).mono ?_
    rintro e w1 ⟨rfl, b1⟩
    replace B := below_both B b1
    replace G2 := G2.behind b1
    replace G1 := G1.behind b1
    go_wp2_with fail
    refine (hc _ B).mono ?_
    rintro e w2 ⟨rfl, b1⟩
    have G4 := G2.behind b1
    have c00 := (G1.behind b1).cell (i := 0) rfl
    have g0 := G4.cell (i := 0) rfl
    have g1 := G4.cell (i := 1) rfl
    have g2 := G4.cell (i := 2) rfl
    have f0 := G4.f 0
    have f1 := G4.f 1
    have f2 := G4.f 2
    go_wp2
    exact bodyPost_ret (v := .tuple #[.agg #[.int .i64 0, .int .i64 0, .slice none 0 0], .int .i64 11]) (by simp [results, Try.results27, go_sem, g0, g1, g2]) rfl
      ⟨rfl, (below_both B b1).put3 (by omega) _ _ _⟩
end Go.Proofs.Ytgppbimbampenaa
