/- tri: a triangle, solved row by row, plain numbers. -/
import Derived.Test.YtdonecohnemomaaTrNum
import Derived.Test.YtdonecohnemomaaMaCol
import Derived.Test.YtdonecohnemomaaFcNum
import Derived.Deep.RegionHeld3
import Derived.Deep.DeepCutAuto
namespace Go.Proofs.Ytdonecohnemomaa
open Go.RowKit Go.Shelf
/-- number j of row i of X behind k products taken away, as the law says it -/
def lesM (R c : Nat) (ts X : List Nat) (i first : Nat) : Nat → Nat → Nat
  | 0, j => lim X (i * c + j)
  | k + 1, j => minusU (lesM R c ts X i first k j) (timesU (lim ts (i * R + (first + k))) (lim X ((first + k) * c + j)))
/-- that number, solved -/
def solN (R c : Nat) (ts X : List Nat) (i first n : Nat) (unit : Bool) (j : Nat) : Nat := if unit then lesM R c ts X i first n j else quotU (lesM R c ts X i first n j) (lim ts (i * R + i))
def rowI (up : Bool) (R k : Nat) : Nat := if up then R - 1 - k else k
def fstI (up : Bool) (R k : Nat) : Nat := if up then R - k else 0
/-- what stands behind k rows -/
def solX (up : Bool) (R c : Nat) (ts : List Nat) (unit : Bool) (ys : List Nat) : Nat → List Nat
  | 0 => ys
  | k + 1 => splice (solX up R c ts unit ys k) (rowI up R k * c) (rowV c (solN R c ts (solX up R c ts unit ys k) (rowI up R k) (fstI up R k) k unit))
section
variable {R c : Nat} {ts X ys : List Nat} {i first n : Nat} {unit up : Bool}
theorem lesM_lt (hx : Low 18446744073709551616 X) (k j : Nat) : lesM R c ts X i first k j ≤ 18446744073709551615 := by
  induction k with
  | zero => have := lim_lt_low hx (i * c + j); unfold lesM; omega
  | succ k ih => exact minusU_lt ih (timesU_lt _ _)
theorem solN_lt (hx : Low 18446744073709551616 X) (j : Nat) : solN R c ts X i first n unit j ≤ 18446744073709551615 := by
  unfold solN
  split
  · exact lesM_lt hx _ _
  · exact quotU_lt _ _
theorem rowI_lt {k : Nat} (hk : k < R) : rowI up R k < R := by unfold rowI; split <;> omega
theorem rowI_fit {k : Nat} (hk : k < R) : rowI up R k * c + c ≤ R * c := by
  have := Nat.mul_le_mul_right c (show rowI up R k + 1 ≤ R from rowI_lt hk)
  rw [Nat.add_mul, Nat.one_mul] at this
  exact this
theorem solX_length (hl : ys.length = R * c) : ∀ k, k ≤ R → (solX up R c ts unit ys k).length = R * c := by
  intro k
  induction k with
  | zero => intro _; exact hl
  | succ k ih =>
    intro hk
    have h1 := ih (by omega)
    unfold solX
    rw [length_splice _ _ _ (by rw [rowV_length, h1]; exact rowI_fit (by omega)), h1]
theorem splice_low {A B : List Nat} {o : Nat} (hA : Low 18446744073709551616 A) (hB : Low 18446744073709551616 B) : Low 18446744073709551616 (splice A o B) := by
  intro y hy
  unfold splice at hy
  rcases List.mem_append.1 hy with h | h
  · exact hA y (List.mem_of_mem_take h)
  · rcases List.mem_append.1 h with h | h
    · exact hB y h
    · exact hA y (List.mem_of_mem_drop h)
theorem solX_low (hy : Low 18446744073709551616 ys) : ∀ k, Low 18446744073709551616 (solX up R c ts unit ys k) := by
  intro k
  induction k with
  | zero => exact hy
  | succ k ih => exact splice_low ih (rowV_low fun j _ => solN_lt ih j)
theorem apart_rows {a b q : Nat} (hq : q < c) (h : a ≠ b) : ¬ (a * c ≤ b * c + q ∧ b * c + q < a * c + c) := by
  rintro ⟨h1, h2⟩
  rcases Nat.lt_or_ge a b with g | g
  · have := Nat.mul_le_mul_right c (show a + 1 ≤ b from g)
    rw [Nat.add_mul, Nat.one_mul] at this
    omega
  · have := Nat.mul_le_mul_right c (show b + 1 ≤ a by omega)
    rw [Nat.add_mul, Nat.one_mul] at this
    omega
theorem splice_row {A : List Nat} {f : Nat → Nat} {a q : Nat} (hl : a * c + c ≤ A.length) (hq : q < c) : lim (splice A (a * c) (rowV c f)) (a * c + q) = f q := by
  rw [lim_splice (by rw [rowV_length]; exact hl), rowV_length, if_pos ⟨by omega, by omega⟩, rowV_lim _ (by omega)]
  congr 1
  omega
theorem splice_else {A : List Nat} {f : Nat → Nat} {a b q : Nat} (hl : a * c + c ≤ A.length) (hq : q < c) (h : a ≠ b) : lim (splice A (a * c) (rowV c f)) (b * c + q) = lim A (b * c + q) := by
  rw [lim_splice (by rw [rowV_length]; exact hl), rowV_length, if_neg (apart_rows hq h)]
theorem rowI_inj {k t : Nat} (hk : k < R) (ht : t < R) (h : k ≠ t) : rowI up R k ≠ rowI up R t := by unfold rowI; split <;> omega
/-- a row that is solved stays -/
theorem solX_keep (hl : ys.length = R * c) {t k q : Nat} (ht : t < k) (hk : k ≤ R) (hq : q < c) : lim (solX up R c ts unit ys k) (rowI up R t * c + q) = lim (solX up R c ts unit ys (t + 1)) (rowI up R t * c + q) := by
  induction k with
  | zero => omega
  | succ k ih =>
    by_cases e : t = k
    · rw [e]
    · rw [← ih (by omega) (by omega)]
      show lim (splice _ _ _) _ = _
      rw [splice_else (by rw [solX_length hl k (by omega)]; exact rowI_fit (by omega)) hq (rowI_inj (by omega) (by omega) (fun h => e h.symm))]
/-- a row that comes out not finite leaves the whole so -/
theorem solX_not (hl : ys.length = R * c) {k : Nat} (hk : k < R) (h : finB (rowV c (solN R c ts (solX up R c ts unit ys k) (rowI up R k) (fstI up R k) k unit)) c = false) : finB (solX up R c ts unit ys R) (R * c) = false := by
  refine Classical.byContradiction fun hno => ?_
  have hy : finB (solX up R c ts unit ys R) (R * c) = true := by cases g : finB (solX up R c ts unit ys R) (R * c) <;> simp_all
  have : finB (rowV c (solN R c ts (solX up R c ts unit ys k) (rowI up R k) (fstI up R k) k unit)) c = true := finB_iff.2 fun j hj => by
    have h1 := finB_iff.1 hy (rowI up R k * c + j) (by have := rowI_fit (c := c) (up := up) hk; omega)
    rw [solX_keep hl (k := R) hk (Nat.le_refl _) hj] at h1
    rw [rowV_lim _ hj]
    have h2 : lim (solX up R c ts unit ys (k + 1)) (rowI up R k * c + j) = _ := splice_row (by rw [solX_length hl k (by omega)]; exact rowI_fit hk) hj
    rw [h2] at h1
    exact h1
  rw [this] at h
  cases h
/-- all finite and a row that comes out finite: all finite -/
theorem splice_fin {A : List Nat} {f : Nat → Nat} {a : Nat} (hl : a * c + c ≤ A.length) (hA : finB A A.length = true) (hf : finB (rowV c f) c = true) : finB (splice A (a * c) (rowV c f)) A.length = true := by
  refine finB_iff.2 fun j hj => ?_
  rw [lim_splice (by rw [rowV_length]; exact hl), rowV_length]
  split
  · rename_i h
    exact finB_iff.1 hf _ (by omega)
  · exact finB_iff.1 hA j hj
/-- the code's row is the law's, as long as what was solved is finite -/
theorem rowS_les (ht : Low 18446744073709551616 ts) (hn : ∀ k, k < n → cls (lim ts (i * R + (first + k))) ≤ 1) (hX : ∀ k j, k < n → j < c → cls (lim X ((first + k) * c + j)) ≤ 1) : ∀ k, k ≤ n → rowS R c ts X i first k = rowV c (lesM R c ts X i first k) := by
  intro k
  induction k with
  | zero => intro _; rfl
  | succ k ih =>
    intro hk
    refine ext_lim (by rw [rowS_length, rowV_length]) fun j hj => ?_
    rw [rowS_length] at hj
    rw [rowS_at hj, rowV_lim _ hj, ih (by omega), rowV_lim _ hj, plus_times (lim_lt_low ht _) (hn k (by omega)) (hX k j (by omega) hj)]
    rfl
theorem neg_fl {a : Nat} (ha : a < 18446744073709551616) (h : cls a ≤ 1) : negB a = flip a := by
  unfold negB
  rw [if_pos ((isNum_cls a).2 (by omega)), flip_eq ha]
  have hm : mag a = a % 9223372036854775808 := rfl
  unfold neg6
  split <;> rename_i g <;> simp at g <;> omega
theorem flip_one {a : Nat} (ha : a < 18446744073709551616) (h : cls a ≤ 1) : nfE (flip a) = 0 := by
  unfold nfE
  rw [(flip_told ha).1, if_neg (by omega)]
end
end Go.Proofs.Ytdonecohnemomaa

/- tri: solveRow. -/
namespace Go.Proofs.Ytdonecohnemomaa
open Go.RowKit Go.Shelf
theorem minus_stays {s p : Nat} (h : 2 ≤ cls s) : 2 ≤ cls (minusU s p) := by
  unfold minusU rsubt
  split
  · first | exact h | (rw [nan_kind]; decide) | (simp only [nan_kind]; decide)
  · exact plus_stays h
section
variable {R c : Nat} {ts X : List Nat} {i first n : Nat} {unit : Bool}
theorem lesM_stays {k j : Nat} (h : 2 ≤ cls (lesM R c ts X i first k j)) (d : Nat) : 2 ≤ cls (lesM R c ts X i first (k + d) j) := by
  induction d with
  | zero => exact h
  | succ d ih => exact minus_stays ih
theorem solN_not {k j : Nat} (hk : k ≤ n) (ht : cls (lim ts (i * R + i)) ≤ 1) (h : 2 ≤ cls (lesM R c ts X i first k j)) : 2 ≤ cls (solN R c ts X i first n unit j) := by
  have h1 := lesM_stays h (n - k)
  rw [show k + (n - k) = n by omega] at h1
  unfold solN
  split
  · exact h1
  · exact quot_stays h1 ht
theorem splice_zero (hl : i * c + c ≤ X.length) : splice X (i * c) (rowV c (lesM R c ts X i first 0)) = X := by
  have hb : i * c + (rowV c (lesM R c ts X i first 0)).length ≤ X.length := by rw [rowV_length]; exact hl
  refine ext_lim (length_splice _ _ _ hb) fun k hk => ?_
  rw [lim_splice hb, rowV_length]
  split
  · rename_i h
    rw [rowV_lim _ (by omega)]
    unfold lesM
    congr 1
    omega
  · rfl
theorem splice_again {f g : Nat → Nat} (hl : i * c + c ≤ X.length) : splice (splice X (i * c) (rowV c f)) (i * c) (rowV c g) = splice X (i * c) (rowV c g) := by
  have h1 : i * c + (rowV c f).length ≤ X.length := by rw [rowV_length]; exact hl
  have h2 : i * c + (rowV c g).length ≤ X.length := by rw [rowV_length]; exact hl
  have h3 : i * c + (rowV c g).length ≤ (splice X (i * c) (rowV c f)).length := by rw [length_splice _ _ _ h1]; exact h2
  refine ext_lim (by rw [length_splice _ _ _ h3, length_splice _ _ _ h1, length_splice _ _ _ h2]) fun k _ => ?_
  rw [lim_splice h3, lim_splice h2, lim_splice h1, rowV_length, rowV_length]
  split <;> rfl
theorem splice_set {f g : Nat → Nat} {k : Nat} (hl : i * c + c ≤ X.length) (hk : k < c) : (splice X (i * c) (rowV c fun j => if j < k then f j else g j)).set (i * c + k) (f k) = splice X (i * c) (rowV c fun j => if j < k + 1 then f j else g j) := by
  have h1 : ∀ q : Nat → Nat, i * c + (rowV c q).length ≤ X.length := fun q => by rw [rowV_length]; exact hl
  refine ext_lim (by rw [List.length_set, length_splice _ _ _ (h1 _), length_splice _ _ _ (h1 _)]) fun q hq => ?_
  rw [List.length_set, length_splice _ _ _ (h1 _)] at hq
  rw [lim_set, lim_splice (h1 _), lim_splice (h1 _), rowV_length, rowV_length, length_splice _ _ _ (h1 _)]
  by_cases e : q = i * c + k
  · rw [if_pos ⟨e, by omega⟩, if_pos ⟨by omega, by omega⟩, rowV_lim _ (by omega), if_pos (by omega), show q - i * c = k by omega]
  · rw [if_neg (fun h => e h.1)]
    by_cases a : i * c ≤ q ∧ q < i * c + c
    · rw [if_pos a, if_pos a, rowV_lim _ (by omega), rowV_lim _ (by omega)]
      by_cases b : q - i * c < k
      · rw [if_pos b, if_pos (by omega)]
      · rw [if_neg b, if_neg (by omega)]
    · rw [if_neg a, if_neg a]
theorem part_splice {f : Nat → Nat} (hl : i * c + c ≤ X.length) : partW (splice X (i * c) (rowV c f)) (i * c) c = rowV c f :=
  ext_lim (by rw [partW_length, rowV_length]) fun k hk => by
    rw [partW_length] at hk
    rw [partW_at hk, rowV_lim _ hk, splice_row hl hk]
theorem part_else {f : Nat → Nat} {j : Nat} (hl : i * c + c ≤ X.length) (h : i ≠ j) : partW (splice X (i * c) (rowV c f)) (j * c) c = partW X (j * c) c :=
  ext_lim (by rw [partW_length, partW_length]) fun k hk => by
    rw [partW_length] at hk
    rw [partW_at hk, partW_at hk, splice_else hl hk h]
theorem les_axpy {k : Nat} (ht : lim ts (i * R + (first + k)) < 18446744073709551616) (hn : cls (lim ts (i * R + (first + k))) ≤ 1) (hX : ∀ j, j < c → cls (lim X ((first + k) * c + j)) ≤ 1) :
    axpyV (flip (lim ts (i * R + (first + k)))) (partW X ((first + k) * c) c) (rowV c (lesM R c ts X i first k)) = rowV c (lesM R c ts X i first (k + 1)) := by
  unfold axpyV
  rw [partW_length, rowV_length, Nat.min_self]
  refine ext_lim (by rw [rowV_length, rowV_length]) fun j hj => ?_
  rw [rowV_length] at hj
  rw [rowV_lim _ hj, rowV_lim _ hj, rowV_lim _ hj, partW_at hj, plus_times ht hn (hX j hj)]
  rfl
theorem part_lo {o k : Nat} (h : Low 18446744073709551616 X) : Low 18446744073709551616 (partW X o k) := by
  intro y hy
  unfold partW at hy
  obtain ⟨q, _, rfl⟩ := List.mem_map.1 hy
  exact lim_lt_low h _
theorem both_fin {xs ys : List Nat} (h1 : xs.length = c) (h2 : ys.length = c) (hc : c ≤ 64) (f1 : finB xs c = true) (f2 : finB ys c = true) {a : Nat} (ha : nfE a = 0) : bothV xs ys (nfE a) = 0 := by
  unfold bothV
  rw [if_neg (fun h => h (chkV_ok.2 ⟨by omega, by rw [h1]; exact f1⟩)), if_neg (fun h => h (chkV_ok.2 ⟨by omega, by rw [h2]; exact f2⟩)), ha, if_neg (by decide), if_neg (by omega)]
/-- a row's error -/
def solE (R c : Nat) (ts X : List Nat) (i first n : Nat) (unit : Bool) : Int := if finB (rowV c (solN R c ts X i first n unit)) c then 0 else 13
/-- row i behind n products, its first k numbers divided -/
def yL (R c : Nat) (ts X : List Nat) (i first n k : Nat) : List Nat := splice X (i * c) (rowV c fun j => if j < k then solN R c ts X i first n false j else lesM R c ts X i first n j)
theorem yL_zero : yL R c ts X i first n 0 = splice X (i * c) (rowV c (lesM R c ts X i first n)) := rfl
theorem yL_all : yL R c ts X i first n c = splice X (i * c) (rowV c (solN R c ts X i first n false)) := by
  unfold yL
  congr 1
  refine ext_lim (by rw [rowV_length, rowV_length]) fun k hk => ?_
  rw [rowV_length] at hk
  rw [rowV_lim _ hk, rowV_lim _ hk, if_pos hk]
theorem yL_length (hl : i * c + c ≤ X.length) (k : Nat) : (yL R c ts X i first n k).length = X.length := by
  unfold yL
  exact length_splice _ _ _ (by rw [rowV_length]; exact hl)
theorem yL_at (hl : i * c + c ≤ X.length) {k : Nat} (hk : k < c) : lim (yL R c ts X i first n k) (i * c + k) = lesM R c ts X i first n k := by
  unfold yL
  rw [splice_row hl hk, if_neg (by omega)]
theorem yL_set (hl : i * c + c ≤ X.length) {k : Nat} (hk : k < c) : (yL R c ts X i first n k).set (i * c + k) (quotU (lesM R c ts X i first n k) (lim ts (i * R + i))) = yL R c ts X i first n (k + 1) := splice_set (f := solN R c ts X i first n false) (g := lesM R c ts X i first n) hl hk
end
theorem But1.trans2 {d : Nat} {w W W' : World} (h0 : But1 d w W) (h : But1 d W W') : But1 d w W' := ⟨Nat.le_trans h0.1 h.1, fun g hg hne => (h.2 g (Nat.lt_of_lt_of_le hg h0.1) hne).trans (h0.2 g hg hne)⟩
theorem But1.trans {d : Nat} {w W W' : World} (h0 : Below w.heap.size w W) (h : But1 d W W') : But1 d w W' := ⟨Nat.le_trans h0.size h.1, fun g hg hne => (h.2 g (Nat.lt_of_lt_of_le hg h0.size) hne).trans (h0.block g hg)⟩
end Go.Proofs.Ytdonecohnemomaa

/- tri: solveRow, walked. -/
namespace Go.Proofs.Ytdonecohnemomaa
open Go.RowKit Go.Shelf
set_option maxRecDepth 100000 in
set_option maxHeartbeats 16000000 in
theorem tri_solve {R c i first n : Nat} {unit : Bool} {S off mt capt d m c8 b : Nat} {ts X : List Nat} {w : World}
    (HX : Hid (∀ W', Below b w W' → ∀ k, k < R * R → W'.cell? ⟨S, off + k, none⟩ = some (.int .u64 (lim ts k : Int)))) (hmt : mt = R * R) (hmtc : mt ≤ capt)
    (hO : OwnK .u64 32 b w (.slice (some ⟨d, 0, none⟩) m c8) (zn X)) (hb : b ≤ w.heap.size) (hl : X.length = R * c) (hm : m = R * c)
    (hR : 1 ≤ R ∧ R ≤ 64) (hc : 1 ≤ c ∧ c ≤ 64) (hi : i < R) (hn : first + n ≤ R) (hne : ∀ k, k < n → first + k ≠ i)
    (ht : Low 18446744073709551616 ts) (hx : Low 18446744073709551616 X) (htf : finB ts (R * R) = true) (hxf : finB X (R * c) = true) :
    Calls Try.prog 69 #[.agg #[.int .i64 (R : Int), .int .i64 (R : Int), .slice (some ⟨S, off, none⟩) mt capt], .bool unit, .agg #[.int .i64 (R : Int), .int .i64 (c : Int), .slice (some ⟨d, 0, none⟩) m c8], .int .i64 (i : Int), .int .i64 (first : Int), .int .i64 (n : Int)] w
      fun e W' => e = .returned (.int .i64 (solE R c ts X i first n unit)) ∧ (solE R c ts X i first n unit = 0 → OwnK .u64 32 b W' (.slice (some ⟨d, 0, none⟩) m c8) (zn (splice X (i * c) (rowV c (solN R c ts X i first n unit))))) ∧ But1 d w W' ∧ Below b w W' := by
  have hRR : R * R ≤ 64 * 64 := Nat.mul_le_mul hR.2 hR.2
  have hRc : R * c ≤ 64 * 64 := Nat.mul_le_mul hR.2 hc.2
  have hfit : ∀ j, j < R → j * c + c ≤ R * c := fun j hj => by
    have := Nat.mul_le_mul_right c (show j + 1 ≤ R from hj)
    rw [Nat.add_mul, Nat.one_mul] at this
    exact this
  have hfi := hfit i hi
  have hii : i * R + R ≤ R * R := by
    have := Nat.mul_le_mul_right R (show i + 1 ≤ R from hi)
    rw [Nat.add_mul, Nat.one_mul] at this
    exact this
  have hfl : i * c + c ≤ X.length := by rw [hl]; exact hfi
  have hmc : m ≤ c8 := by
    have h := hO
    unfold OwnK World.ownsRow at h
    rcases h.2 with ⟨e, _⟩ | ⟨_, _, _, e, _, _, h1, _⟩
    · simp at e
    · simp only [Value.slice.injEq] at e; omega
  obtain ⟨g0, cg0, eg, hd1, hd2⟩ := hO.form (by rw [zn_length, hl]; exact Nat.mul_pos (by omega) (by omega))
  simp only [Value.slice.injEq, Option.some.injEq, Addr.mk.injEq, and_true] at eg
  obtain ⟨rfl, -, rfl⟩ := eg
  obtain ⟨V, hV⟩ : ∃ V, V = rowV c (solN R c ts X i first n unit) := ⟨_, rfl⟩
  obtain ⟨E9, hE9⟩ : ∃ E, E = solE R c ts X i first n unit := ⟨_, rfl⟩
  rw [← hV, ← hE9]
  have HE9 : Hid ((finB V c = true → E9 = 0) ∧ (finB V c = false → E9 = 13)) := Lib.hid (by
    unfold solE at hE9
    rw [← hV] at hE9
    refine ⟨fun h => ?_, fun h => ?_⟩
    · rw [hE9, h]; rfl
    · rw [hE9, h]; rfl)
  obtain ⟨L, hL⟩ : ∃ L, L = fun k => rowV c (lesM R c ts X i first k) := ⟨_, rfl⟩
  have hLl : ∀ k, (L k).length = c := fun k => by rw [hL]; exact rowV_length _ _
  have hLw : ∀ k, Low 18446744073709551616 (L k) := fun k => by rw [hL]; exact rowV_low fun j _ => lesM_lt hx _ _
  have hqf : ∀ q, q < R * R → cls (lim ts q) ≤ 1 := fun q hq => finB_iff.1 htf q hq
  have hVN : ∀ k, k ≤ n → finB (L k) c = false → finB V c = false := fun k hk h => by
    refine Classical.byContradiction fun hno => ?_
    have hy : finB V c = true := by cases g : finB V c <;> simp_all
    have : finB (L k) c = true := finB_iff.2 fun j hj => by
      refine Classical.byContradiction fun hc2 => ?_
      have h2 := finB_iff.1 hy j hj
      rw [hL] at hc2
      dsimp only at hc2
      rw [rowV_lim _ hj] at hc2
      have h3 := solN_not (n := n) (unit := unit) hk (hqf (i * R + i) (by omega)) (by omega : 2 ≤ cls (lesM R c ts X i first k j))
      rw [hV, rowV_lim _ hj] at h2
      omega
    rw [this] at h; cases h
  have hL0 : finB (L 0) c = true := finB_iff.2 fun j hj => by
    rw [hL]
    dsimp only
    rw [rowV_lim _ hj]
    unfold lesM
    exact finB_iff.1 hxf _ (by omega)
  -- the list behind k products, and what a step does
  obtain ⟨XK, hXK⟩ : ∃ XK, XK = fun k => splice X (i * c) (L k) := ⟨_, rfl⟩
  have HX0 : Hid (XK 0 = X) := Lib.hid (by rw [hXK, hL]; exact splice_zero hfl)
  have HXL : Hid (∀ k, (zn (XK k)).length = m) := Lib.hid (fun k => by rw [zn_length, hXK]; dsimp only; rw [length_splice _ _ _ (by rw [hLl]; exact hfl), hl, hm])
  have hpart : ∀ (k j : Nat), j ≠ i → partW (XK k) (j * c) c = partW X (j * c) c := fun k j hj => by rw [hXK, hL]; exact part_else hfl (fun e => hj e.symm)
  have hself : ∀ k, partW (XK k) (i * c) c = L k := fun k => by rw [hXK, hL]; exact part_splice hfl
  have HT : Hid (∀ k, k < n → ∃ P Q x : Nat, IntKind.i64.wrap ((i : Int) * (R : Int)) = (Q : Int) ∧ IntKind.i64.wrap ((first : Int) + (k : Int)) = ((first + k : Nat) : Int) ∧ IntKind.i64.wrap ((Q : Int) + ((first + k : Nat) : Int)) = (P : Int) ∧ P < mt ∧ (x : Int) ≤ 18446744073709551615 ∧ (∀ W, Below b w W → W.cell? ⟨S, off + P, none⟩ = some (.int .u64 (x : Int))) ∧
      (∀ W : World, Calls Try.prog 106 #[.int .u64 (x : Int)] W fun e W' => e = .returned (.int .u64 (flip x : Int)) ∧ Below W.heap.size W W') ∧ ((flip x : Nat) : Int) ≤ 18446744073709551615 ∧
      (finB (L k) c = true → ∀ (W : World) (v1 v2 : Value), Arg W v1 (partW X ((first + k) * c) c) → Arg W v2 (L k) → Calls Try.prog 105 #[.int .u64 (flip x : Int), v1, v2] W fun e W' => ∃ v', e = .returned (.tuple #[v', .int .i64 (if finB (L (k + 1)) c then 0 else 13)]) ∧ OwnK .u64 32 W.heap.size W' v' (zn (if finB (L (k + 1)) c then L (k + 1) else [])) ∧ Below W.heap.size W W')) := Lib.hid (fun k hk => by
    have hP : i * R + (first + k) < R * R := by omega
    have hlo : lim ts (i * R + (first + k)) < 18446744073709551616 := lim_lt_low ht _
    have hcl := hqf _ hP
    have hfl2 := (flip_facts hlo).1
    refine ⟨i * R + (first + k), i * R, lim ts (i * R + (first + k)), by rw [← Int.natCast_mul]; exact IntWalk.i64_in _ (by omega), by rw [← Int.natCast_add]; exact IntWalk.i64_in _ (by omega), by rw [← Int.natCast_add]; exact IntWalk.i64_in _ (by omega), by omega, by omega, fun W h => HX.out W h _ hP, fun W => ?_, by omega, fun hk0 W v1 v2 h1 h2 => ?_⟩
    · have h := fcmp_neg (w := W) (show ((lim ts (i * R + (first + k)) : Nat) : Int) ≤ 18446744073709551615 by omega)
      rw [neg_fl hlo hcl] at h
      exact h
    · have hXf : ∀ j, j < c → cls (lim X ((first + k) * c + j)) ≤ 1 := fun j hj => finB_iff.1 hxf _ (by have := hfit (first + k) (by omega); omega)
      have hax : axpyV (flip (lim ts (i * R + (first + k)))) (partW X ((first + k) * c) c) (L k) = L (k + 1) := by rw [hL]; exact les_axpy hlo hcl hXf
      have h := vec_axpy (a := flip (lim ts (i * R + (first + k)))) (w := W) (by omega) h1 h2 (part_lo hx) (hLw k) (by rw [partW_length]; omega) (by rw [hLl]; omega)
      rw [hax, both_fin (partW_length _ _ _) (hLl k) hc.2 (finB_iff.2 fun j hj => by rw [partW_at hj]; exact hXf j hj) hk0 (flip_one hlo hcl), tellV_yes, hLl] at h
      refine h.mono ?_
      rintro e W' ⟨v', rfl, h3, h4⟩
      refine ⟨v', rfl, ?_, h4⟩
      cases g : finB (L (k + 1)) c
      · rw [g] at h3; exact h3
      · rw [g] at h3; exact h3)
  have HSP : Hid (∀ k, splice (zn (XK k)) (i * c) (zn (L (k + 1))) = zn (XK (k + 1))) := Lib.hid (fun k => by rw [zn_splice, hXK, hL]; dsimp only; rw [splice_again hfl])
  have HVN := Lib.hid hVN
  have HL0 := Lib.hid hL0
  have HLL := Lib.hid hLl
  obtain ⟨P0, hP0⟩ : ∃ p, p = i * c := ⟨_, rfl⟩
  have hP0m : P0 + c ≤ m := by omega
  have HPT : Hid (∀ (W : World) (k : Nat), 0 < W.heap.size → OwnK .u64 32 b W (.slice (some ⟨d, 0, none⟩) m c8) (zn (XK k)) → Arg W (.slice (some ⟨d, P0, none⟩) c (c8 - P0)) (L k) ∧ ∀ j, j < R → j ≠ i → Arg W (.slice (some ⟨d, j * c, none⟩) c (c8 - j * c)) (partW X (j * c) c)) := Lib.hid (fun W k h0 h => by
    have hA := (new_zn.2 (h.new h0)).arg
    have hll : (XK k).length = m := by have := HXL.out k; rwa [zn_length] at this
    refine ⟨?_, fun j hj hji => ?_⟩
    · have h2 := hA.part (o := i * c) (k := c) (cap' := c8 - i * c) (by omega) (by omega)
      rw [hself, Nat.zero_add, ← hP0] at h2
      exact h2
    · have h2 := hA.part (o := j * c) (k := c) (cap' := c8 - j * c) (by have := hfit j hj; omega) (by have := hfit j hj; omega)
      rw [hpart k j hji, Nat.zero_add] at h2
      exact h2)
  have HRW := Lib.hid (fun (j : Nat) (W : World) (hj : j < R) => by
    have h := tri_row (S := d) (off := 0) (m := m) (cap := c8) (C := c) (i := j) (R := (R : Int)) (w := W) (by omega) (by omega) (by omega) (by have := hfit j hj; omega) hmc
    rw [Nat.zero_add] at h
    exact h)
  have HNE := Lib.hid hne
  -- the second loop's
  obtain ⟨YK, hYK⟩ : ∃ YK, YK = yL R c ts X i first n := ⟨_, rfl⟩
  have HY0 : Hid (XK n = YK 0) := Lib.hid (by rw [hXK, hYK, hL]; rfl)
  have HYL : Hid (∀ k, (zn (YK k)).length = m) := Lib.hid (fun k => by rw [zn_length, hYK, yL_length hfl, hl, hm])
  have HYV : Hid (unit = false → splice X (i * c) V = YK c) := Lib.hid (fun h => by rw [hYK, yL_all, hV, h])
  have HVV : Hid (unit = true → XK n = splice X (i * c) V ∧ V = L n) := Lib.hid (fun h => by
    have : V = L n := by
      rw [hV, hL, h]
      rfl
    rw [this, hXK]
    exact ⟨rfl, rfl⟩)
  have HD : Hid (∃ P Q x : Nat, IntKind.i64.wrap ((i : Int) * (R : Int)) = (Q : Int) ∧ IntKind.i64.wrap ((Q : Int) + (i : Int)) = (P : Int) ∧ P < mt ∧ (x : Int) ≤ 18446744073709551615 ∧ (∀ W, Below b w W → W.cell? ⟨S, off + P, none⟩ = some (.int .u64 (x : Int))) ∧
      ∀ k, k < c → ∃ y z f : Nat, (∀ W, Calls Try.prog 73 #[.int .u64 (y : Int), .int .u64 (x : Int), .int .i64 0] W fun e W' => e = .returned (.tuple #[.int .u64 (z : Int), .int .i64 (f : Int)]) ∧ Below W.heap.size W W') ∧ zat (zn (YK k)) (P0 + k) = (y : Int) ∧ (zn (YK k)).set (P0 + k) (z : Int) = zn (YK (k + 1))) := Lib.hid (by
    have hP : i * R + i < R * R := by omega
    have hlo : lim ts (i * R + i) < 18446744073709551616 := lim_lt_low ht _
    refine ⟨i * R + i, i * R, lim ts (i * R + i), by rw [← Int.natCast_mul]; exact IntWalk.i64_in _ (by omega), by rw [← Int.natCast_add]; exact IntWalk.i64_in _ (by omega), by omega, by omega, fun W h => HX.out W h _ hP, fun k hk => ?_⟩
    have hy := lesM_lt (R := R) (c := c) (ts := ts) (X := X) (i := i) (first := first) hx n k
    refine ⟨lesM R c ts X i first n k, quotU (lesM R c ts X i first n k) (lim ts (i * R + i)), (rdiv6 (lesM R c ts X i first n k) (lim ts (i * R + i)) 0).2, fun W => fdiv_div (by omega) (by omega), ?_, ?_⟩
    · rw [zn_at (by rw [hYK, yL_length hfl]; omega), hYK, hP0, yL_at hfl hk]
    · rw [← zn_set, hYK, hP0, yL_set hfl hk])
  have HCK : Hid (unit = false → ∀ W : World, 0 < W.heap.size → OwnK .u64 32 b W (.slice (some ⟨d, 0, none⟩) m c8) (zn (YK c)) → Calls Try.prog 107 #[.slice (some ⟨d, P0, none⟩) c (c8 - P0)] W fun e W' => e = .returned (.int .i64 (if finB V c then 0 else 12)) ∧ Below W.heap.size W W') := Lib.hid (fun hu W h0 h => by
    have hA := (new_zn.2 (h.new h0)).arg
    have hll : (YK c).length = m := by have := HYL.out c; rwa [zn_length] at this
    have h2 := hA.part (o := i * c) (k := c) (cap' := c8 - i * c) (by omega) (by omega)
    have hVl : V.length = c := by rw [hV]; exact rowV_length _ _
    have hpv : partW (YK c) (i * c) c = V := by rw [hYK, yL_all, part_splice hfl, hV, hu]
    rw [hpv, Nat.zero_add, ← hP0] at h2
    have h3 := vec_check h2 (by rw [hV]; exact rowV_low fun j _ => solN_lt hx j) (by omega)
    unfold chkV at h3
    rw [hVl, if_neg (by omega)] at h3
    exact h3)
  rw [← hP0] at HSP HYV HVV
  obtain ⟨B0, G1, G2, hw0⟩ := vboxm w #[.int .i64 (R : Int), .int .i64 (R : Int), .slice (some ⟨S, off, none⟩) mt capt] #[.int .i64 (R : Int), .int .i64 (c : Int), .slice (some ⟨d, 0, none⟩) m c8] 24 24 _ rfl
  have c0 := G1.cell (i := 0) rfl
  have c1 := G1.cell (i := 1) rfl
  have c2 := G1.cell (i := 2) rfl
  have d0 := G2.cell (i := 0) rfl
  have d1 := G2.cell (i := 1) rfl
  have d2 := G2.cell (i := 2) rfl
  have HO0 := Lib.hid (hO.below B0)
  have HB0 := Lib.hid B0
  have HBB := Lib.hid (B0.mono hb)
  have HSZ : Hid (b ≤ d ∧ d < w.heap.size ∧ 0 < w.heap.size ∧ b ≤ w.heap.size) := Lib.hid ⟨hd1, hd2, by omega, hb⟩
  have hi64 : (i : Int) ≤ 64 := by omega
  have hc64 : (c : Int) ≤ 64 := by omega
  have hR64 : (R : Int) ≤ 64 := by omega
  have hn64 : (n : Int) ≤ 64 := by omega
  have HI := Lib.hid (And.intro hi hP0)
  have HPM := Lib.hid (And.intro hP0m hmc)
  have HFN := Lib.hid hn
  have HC0 : Hid (0 < c) := Lib.hid (by omega)
  rw [← hP0]
  clear hE9 hRR hRc hfit hfi hii hfl hd1 hd2 hO hV hL hLl hLw hqf hVN hL0 hXK hpart hself hYK hw0 B0 hb hl hm hR hc hi hn hne ht hx htf hxf hmtc hmt HX hP0 hP0m hmc
  go_enter Try.func69, Try.ntmps69
  go_wp2_with fail
  generalize (w.alloc (.cells #[.int .i64 (R : Int), .int .i64 (R : Int), .slice (some ⟨S, off, none⟩) mt capt] 24)).alloc (.cells #[.int .i64 (R : Int), .int .i64 (c : Int), .slice (some ⟨d, 0, none⟩) m c8] 24) = W0 at *
  have h := HRW.out i W0 HI.out.1
  rw [← HI.out.2] at h
  refine h.mono ?_
  rintro e w1 ⟨rfl, b1⟩
  clear h
  replace HO0 := Lib.hid (HO0.out.below b1)
  replace HBB := Lib.hid (HBB.out.trans (b1.mono (by have := HSZ.out; have := HB0.out.size; omega)))
  replace HB0 := Lib.hid (below_both HB0.out b1)
  replace G1 := G1.behind b1
  replace G2 := G2.behind b1
  clear c0 c1 c2 d0 d1 d2 b1
  have c0 := G1.cell (i := 0) rfl
  have c1 := G1.cell (i := 1) rfl
  have c2 := G1.cell (i := 2) rfl
  have d0 := G2.cell (i := 0) rfl
  have d1 := G2.cell (i := 1) rfl
  have d2 := G2.cell (i := 2) rfl
  go_wp2
  go_loopw [24] (fun i wr => ∃ k : Nat, k ≤ n ∧ i = .int .i64 k ∧ OwnK .u64 32 b wr (.slice (some ⟨d, 0, none⟩) m c8) (zn (XK k)) ∧ But1 d w1 wr ∧ Below b w wr ∧ Hid (finB (L k) c = true)) (fun i _ => n - (intOf i).toNat)
  case atStart => exact ⟨0, Nat.zero_le _, rfl, by rw [HX0.out]; exact HO0.out, But1.refl _ _, HBB.out, HL0⟩
  case round =>
    clear c0 c1 c2 d0 d1 d2
    obtain ⟨k, hk, rfl, ho, hU, hBb, HF⟩ := hrel
    have g1 := hU.ms G1 (by have := HSZ.out; omega)
    have g2 := hU.ms G2 (by have := HSZ.out; omega)
    by_cases hlt : k < n
    · obtain ⟨P, Q, x, e1, e2, e3, e4, e7, e5, hng, e8, hax⟩ := HT.out k hlt
      have q : decide ((k : Int) < (n : Int)) = true := decide_eq_true (by omega)
      have hpos : 0 < wr.heap.size := by have := hU.1; have := HB0.out.size; have := HSZ.out; omega
      have hbw : b ≤ wr.heap.size := by have := hBb.size; have := HSZ.out; omega
      have HNG := Lib.hid hng
      have HRJ := Lib.hid (fun W => HRW.out (first + k) W (by have := HFN.out; omega))
      have HAX := Lib.hid (fun (W : World) (h : Below wr.heap.size wr W) => by
        have hp := HPT.out W k (by have := h.size; omega) (ho.below h)
        exact hax HF.out W _ _ (hp.2 (first + k) (by have := HFN.out; omega) (HNE.out k hlt)) hp.1)
      have HSPK := Lib.hid (HSP.out k)
      have HNX := Lib.hid (fun h => HVN.out (k + 1) (by omega) h)
      have HLK := Lib.hid (HLL.out (k + 1))
      have HKM : Hid (P0 + c ≤ (zn (XK k)).length) := Lib.hid (by rw [HXL.out]; exact HPM.out.1)
      have ka := e5 _ hBb
      have HC : Hid (∀ W, Below wr.heap.size wr W → W.cell? ⟨w.heap.size, 1, none⟩ = some (.int .i64 (R : Int)) ∧ W.cell? ⟨w.heap.size, 2, none⟩ = some (.slice (some ⟨S, off, none⟩) mt capt) ∧ W.cell? ⟨S, off + P, none⟩ = some (.int .u64 (x : Int)) ∧ W.cell? ⟨w.heap.size + 1, 0, none⟩ = some (.int .i64 (R : Int)) ∧ W.cell? ⟨w.heap.size + 1, 1, none⟩ = some (.int .i64 (c : Int)) ∧ W.cell? ⟨w.heap.size + 1, 2, none⟩ = some (.slice (some ⟨d, 0, none⟩) m c8)) := Lib.hid (fun W h =>
        ⟨(g1.behind h).cell (i := 1) rfl, (g1.behind h).cell (i := 2) rfl, e5 W (hBb.trans (h.mono hbw)), (g2.behind h).cell (i := 0) rfl, (g2.behind h).cell (i := 1) rfl, (g2.behind h).cell (i := 2) rfl⟩)
      have HOK := Lib.hid ho
      have HUK := Lib.hid hU
      have HBK := Lib.hid hBb
      have HPB := Lib.hid (And.intro hpos hbw)
      have Br : Below wr.heap.size wr wr := Below.refl _ _
      obtain ⟨E, hE⟩ : ∃ E : Int, E = if finB (L (k + 1)) c then 0 else 13 := ⟨_, rfl⟩
      obtain ⟨Z, hZ⟩ : ∃ Z : List Nat, Z = if finB (L (k + 1)) c then L (k + 1) else [] := ⟨_, rfl⟩
      rw [← hE, ← hZ] at HAX
      have HEZ : Hid ((finB (L (k + 1)) c = true ∧ E = 0 ∧ Z = L (k + 1)) ∨ (finB (L (k + 1)) c = false ∧ E = 13)) := Lib.hid (by
        cases g : finB (L (k + 1)) c
        · rw [g] at hE; exact .inr ⟨rfl, hE⟩
        · rw [g] at hE hZ; exact .inl ⟨rfl, hE, hZ⟩)
      obtain ⟨J, hJ⟩ : ∃ J, J = (first + k) * c := ⟨_, rfl⟩
      rw [← hJ] at HAX HRJ
      obtain ⟨F, hF⟩ : ∃ F, F = first + k := ⟨_, rfl⟩
      rw [← hF] at e2 e3 HRJ
      clear hng hax ho hU hBb hpos hbw e5 hE hZ hJ hF g1 g2 HF
      generalize flip x = fx at *
      go_upto_region 6 with (fail)
      go_cut [16, 17] from 30 to 48 (fun u v wz => v = .int .i64 E ∧ OwnK .u64 32 wr.heap.size wz u (zn Z) ∧ Below wr.heap.size wr wz)
      case first =>
       as_aux_lemma =>
        go_region_held3 (fun W => W.cell? ⟨w.heap.size, 1, none⟩ = some (.int .i64 (R : Int)) ∧ W.cell? ⟨w.heap.size, 2, none⟩ = some (.slice (some ⟨S, off, none⟩) mt capt) ∧ W.cell? ⟨S, off + P, none⟩ = some (.int .u64 (x : Int)) ∧ W.cell? ⟨w.heap.size + 1, 0, none⟩ = some (.int .i64 (R : Int)) ∧ W.cell? ⟨w.heap.size + 1, 1, none⟩ = some (.int .i64 (c : Int)) ∧ W.cell? ⟨w.heap.size + 1, 2, none⟩ = some (.slice (some ⟨d, 0, none⟩) m c8))
          (first | with_reducible exact HC.out _ Br | with_reducible exact HC.out _ Br.drew)
          (first
            | (go_at_call 106; (with_reducible refine (HNG.out _).mono ?_); rintro e v4 ⟨rfl, bz⟩; replace Br : Below wr.heap.size wr v4 := (by first | with_reducible exact below_both Br bz | with_reducible exact below_both Br.drew bz); clear bz)
            | (go_at_call 104; (with_reducible refine (HRJ.out _).mono ?_); rintro e v4 ⟨rfl, bz⟩; replace Br : Below wr.heap.size wr v4 := (by first | with_reducible exact below_both Br bz | with_reducible exact below_both Br.drew bz); clear bz)
            | (go_at_call 105; (with_reducible refine (HAX.out _ (by first | with_reducible exact Br | with_reducible exact Br.drew)).mono ?_); rintro e v5 ⟨v', rfl, hO, bz⟩; replace hO := OwnK.mono hO Br.size; replace Br : Below wr.heap.size wr v5 := (by first | with_reducible exact below_both Br bz | with_reducible exact below_both Br.drew bz); clear bz)
            | (fail))
        all_goals
          go_wp2_with fail
          go_meet
          exact ⟨rfl, hO, Br⟩
      obtain ⟨hv0, hO, hB6⟩ := hcut
      subst hv0
      have hoc := HOK.out.below hB6
      have hUc := HUK.out.below hB6
      have hBc := HBK.out.trans (hB6.mono HPB.out.2)
      clear HC HNG HRJ HAX Br
      rcases HEZ.out with ⟨hf, rfl, rfl⟩ | ⟨hf, rfl⟩
      · have hlL : (zn (L (k + 1))).length = c := by rw [zn_length, HLK.out]
        obtain ⟨gq, cq, eq, hq1, hq2⟩ := hO.form (by rw [hlL]; exact HC0.out)
        subst eq
        have HLc := Lib.hid hlL
        have HFF := Lib.hid hf
        have hfit : P0 + (zn (L (k + 1))).length ≤ (zn (XK k)).length := by rw [hlL]; exact HKM.out
        have HSRC : Hid (∀ j v, (valsK .u64 (zn (L (k + 1))))[j]? = some v → wc.cell? ((⟨gq, 0, none⟩ : Addr).add j) = some v) := Lib.hid (fun j v hv => by
          have hj : j < (zn (L (k + 1))).length := by
            rcases Nat.lt_or_ge j (zn (L (k + 1))).length with h | h
            · exact h
            · rw [List.getElem?_eq_none (by rw [valsK_length]; exact h)] at hv; cases hv
          rw [valsK_get hj] at hv
          have ha : (⟨gq, 0, none⟩ : Addr).add j = ⟨gq, j, none⟩ := by unfold Addr.add; split <;> simp_all
          rw [ha, hO.cell hj]; exact hv)
        clear hlL hO hf hq1 hq2
        go_wp2_with (refine own_copy rfl (.tmp 52) (.tmp 53) rfl rfl rfl hoc HLc.out.symm hfit HSRC.out ?_; intro w6 ho6 hh6 hs6 hb6)
        go_roundw
        case rel => exact ⟨k + 1, by omega, by simp, by rw [← HSPK.out]; exact ho6, hUc.put hh6 hs6, hBc.trans hb6, HFF⟩
        case measure => simp [intOf]; omega
      · have HT := Lib.hid (HE9.out.2 (HNX.out hf))
        have HU2 := Lib.hid (But1.trans HB0.out hUc)
        have HB2 := Lib.hid hBc
        clear hO hoc hUc hBc hf
        go_wp2
        go_ret
        exact ⟨(by have h := HT.out; subst h; rfl), fun h => absurd (HT.out.symm.trans h) (by decide), HU2.out, HB2.out⟩
    · obtain rfl : k = n := by omega
      have q : decide ((k : Int) < (k : Int)) = false := decide_eq_false (by omega)
      have HU2 := Lib.hid (But1.trans HB0.out hU)
      have HB2 := Lib.hid hBb
      have HF2 := Lib.hid HF.out
      cases unit
      · rw [HY0.out] at ho
        have HOK := Lib.hid ho
        have hcl : YK 0 = YK 0 := rfl
        clear ho hU hBb HF hlt hcl
        go_wp2
        obtain ⟨wo, rfl⟩ : ∃ wo, wo = wr := ⟨_, rfl⟩
        go_loopw [59] (fun i wv => ∃ k : Nat, k ≤ c ∧ i = .int .i64 k ∧ OwnK .u64 32 b wv (.slice (some ⟨d, 0, none⟩) m c8) (zn (YK k)) ∧ But1 d wo wv ∧ Below b w wv) (fun i _ => c - (intOf i).toNat)
        case atStart => exact ⟨0, Nat.zero_le _, rfl, HOK.out, But1.refl _ _, HB2.out⟩
        case round =>
          obtain ⟨j, hj, rfl, ho, hU, hBb⟩ := hrel
          by_cases hlt : j < c
          · obtain ⟨P, Q, x, e1, e2, e3, e4, e5, e6⟩ := HD.out
            obtain ⟨y, z, f, e7, e8, e9⟩ := e6 j hlt
            have q2 : decide ((j : Int) < (c : Int)) = true := decide_eq_true (by omega)
            have k1 := (hU.ms g1 (by have := HSZ.out; omega)).cell (i := 1) rfl
            have k2 := (hU.ms g1 (by have := HSZ.out; omega)).cell (i := 2) rfl
            have kt := e5 _ hBb
            have kr := ho.cell (j := P0 + j) (by rw [HYL.out]; have := HPM.out; omega)
            rw [e8] at kr
            have HDV := Lib.hid e7
            have HST := Lib.hid e9
            have HOO := Lib.hid ho
            have HUU := Lib.hid hU
            have HBE := Lib.hid hBb
            have hjP := HPM.out
            clear e5 e6 e7 e8 e9 ho hU hBb
            go_wp2_with fail
            refine (HDV.out _).mono ?_
            rintro e w2 ⟨rfl, b2⟩
            have ho2 := HOO.out.below b2
            have f2 := ho2.frozen (P0 + j)
            have HO2 := Lib.hid ho2
            have HU3 := Lib.hid (HUU.out.below b2)
            have HB3 := Lib.hid (HBE.out.trans (b2.mono (by have := HUU.out.1; have := HB2.out.size; have := HSZ.out; omega)))
            have kr2 : w2.cell? ⟨d, P0 + j, none⟩ = some (.int .u64 (y : Int)) := (b2.cell (p := ⟨d, P0 + j, none⟩) (by have := HUU.out.1; have := HSZ.out; have := HB0.out.size; have := HU2.out.1; show d < _; omega)).trans kr
            clear kr k1 k2 kt b2 ho2
            go_wp2
            go_roundw
            case rel => exact ⟨j + 1, by omega, by simp, by rw [← HST.out]; exact HO2.out.set (P0 + j) z, HU3.out.put (fun q hq => Below.heap_setCell w2 ⟨d, P0 + j, none⟩ _ q hq) (World.size_setCell _ _ _), HB3.out.setCell (p := ⟨d, P0 + j, none⟩) HSZ.out.1 _⟩
            case measure => simp [intOf]; omega
          · obtain rfl : j = c := by omega
            have q2 : decide ((j : Int) < (j : Int)) = false := decide_eq_false (by omega)
            have hck := HCK.out trivial wr (by have := hU.1; have := HU2.out.1; have := HSZ.out; omega) ho
            have HU3 := Lib.hid (HU2.out.trans2 hU)
            have HOO := Lib.hid ho
            have HBE := Lib.hid hBb
            have HYZ := Lib.hid (HYV.out trivial)
            have HSW : Hid (b ≤ wr.heap.size) := Lib.hid (by have := hU.1; have := HU2.out.1; have := HSZ.out; omega)
            clear ho hU hBb hlt
            cases hg : finB V j
            · have HT := Lib.hid (HE9.out.2 hg)
              rw [hg] at hck
              clear hg
              go_wp2_with fail
              refine hck.mono ?_
              rintro e w3 ⟨rfl, b3⟩
              have HB4 := Lib.hid b3
              clear b3
              go_wp2
              go_ret
              exact ⟨(by have h := HT.out; subst h; rfl), fun h => absurd (HT.out.symm.trans h) (by decide), HU3.out.below HB4.out, HBE.out.trans (HB4.out.mono HSW.out)⟩
            · have HT := Lib.hid (HE9.out.1 hg)
              rw [hg] at hck
              clear hg
              go_wp2_with fail
              refine hck.mono ?_
              rintro e w3 ⟨rfl, b3⟩
              have HB4 := Lib.hid b3
              clear b3
              go_wp2
              go_ret
              exact ⟨(by have h := HT.out; subst h; rfl), fun _ => by rw [HYZ.out]; exact HOO.out.below HB4.out, HU3.out.below HB4.out, HBE.out.trans (HB4.out.mono HSW.out)⟩
      · have HVT := Lib.hid (HVV.out rfl)
        have HOK := Lib.hid ho
        clear ho hU hBb HF hlt
        go_wp2
        go_ret
        exact ⟨(by have h := HE9.out.1 (by rw [HVT.out.2]; exact HF2.out); subst h; rfl), fun _ => by rw [← HVT.out.1]; exact HOK.out, HU2.out, HB2.out⟩
end Go.Proofs.Ytdonecohnemomaa

/- tri: Lower, Upper. -/
namespace Go.Proofs.Ytdonecohnemomaa
open Go.RowKit Go.Shelf
theorem OwnK.other {k : IntKind} {t : TypeId} {b d n cap : Nat} {W W' : World} {zs : List Int} (h : OwnK k t b W (.slice (some ⟨d, 0, none⟩) n cap) zs) (hh : W'.heap[d]? = W.heap[d]?) : OwnK k t b W' (.slice (some ⟨d, 0, none⟩) n cap) zs := by
  unfold OwnK World.ownsRow at h ⊢
  obtain ⟨hz, hw⟩ := h
  refine ⟨hz, ?_⟩
  rcases hw with ⟨e, _⟩ | ⟨g', cap', cur, e, hb, hg, hr⟩
  · simp at e
  · have e2 := e
    simp only [Value.slice.injEq, Option.some.injEq, Addr.mk.injEq, and_true] at e
    obtain ⟨rfl, _, rfl⟩ := e
    exact .inr ⟨d, cap, cur, e2, hb, hh.trans hg, hr⟩
theorem heap_put3' {W : World} {g q : Nat} {x y z : Value} (h : q ≠ g) : (((W.setCell ⟨g, 0, none⟩ x).setCell ⟨g, 1, none⟩ y).setCell ⟨g, 2, none⟩ z).heap[q]? = W.heap[q]? :=
  (Below.heap_setCell _ ⟨g, 2, none⟩ _ _ h).trans ((Below.heap_setCell _ ⟨g, 1, none⟩ _ _ h).trans (Below.heap_setCell _ ⟨g, 0, none⟩ _ _ h))
theorem ms_put3' {W : World} {g : Nat} {a b c x y z : Value} {t : TypeId} (hM : Ms W g #[a, b, c] t) : Ms (((W.setCell ⟨g, 0, none⟩ x).setCell ⟨g, 1, none⟩ y).setCell ⟨g, 2, none⟩ z) g #[x, y, z] t := ((hM.set 0 x).set 1 y).set 2 z
theorem new_ms {W v : World} {cs : Array Value} {t : TypeId} (h : Below (W.alloc (.cells cs t)).heap.size (W.alloc (.cells cs t)) v) : Ms v W.heap.size cs t := (mbox W cs t _ rfl).2.behind h
theorem new_msd {W v : World} {cs : Array Value} {t : TypeId} (h : Below (W.alloc (.cells cs t)).drew.heap.size (W.alloc (.cells cs t)).drew v) : Ms v W.heap.size cs t := (show Ms (W.alloc (.cells cs t)).drew W.heap.size cs t from (mbox W cs t _ rfl).2).behind h
set_option maxRecDepth 100000 in
set_option maxHeartbeats 16000000 in
theorem tri_lower_no {R C R2 C2 : Int} {unit : Bool} {a b : Option Addr} {m n cap cap2 : Nat} {xs ys : List Nat} {w : World} (hA : Arg w (.slice a m cap) xs) (hB : Arg w (.slice b n cap2) ys) (hx : Low 18446744073709551616 xs) (hy : Low 18446744073709551616 ys)
    (hr : readyE (finM R C m xs) (finM R2 C2 n ys) R C R2 unit xs ≠ 0) :
    Calls Try.prog 24 #[.agg #[.int .i64 R, .int .i64 C, .slice a m cap], .bool unit, .agg #[.int .i64 R2, .int .i64 C2, .slice b n cap2]] w fun e W' => e = .returned (.tuple #[.agg #[.int .i64 0, .int .i64 0, .slice none 0 0], .int .i64 (readyE (finM R C m xs) (finM R2 C2 n ys) R C R2 unit xs)]) ∧ Below w.heap.size w W' := by
  obtain ⟨B0, G1, G2, hw1⟩ := vboxm w #[.int .i64 R, .int .i64 C, .slice a m cap] #[.int .i64 R2, .int .i64 C2, .slice b n cap2] 24 24 _ rfl
  obtain ⟨j3, G3⟩ := mbox ((w.alloc (.cells #[.int .i64 R, .int .i64 C, .slice a m cap] 24)).alloc (.cells #[.int .i64 R2, .int .i64 C2, .slice b n cap2] 24)) #[.int .i64 0, .int .i64 0, .slice none 0 0] 24 _ rfl
  replace G1 := G1.behind j3
  replace G2 := G2.behind j3
  replace B0 := below_both B0 j3
  simp only [World.size_alloc] at G3
  have hsz : (((w.alloc (.cells #[.int .i64 R, .int .i64 C, .slice a m cap] 24)).alloc (.cells #[.int .i64 R2, .int .i64 C2, .slice b n cap2] 24)).alloc (.cells #[.int .i64 0, .int .i64 0, .slice none 0 0] 24)).heap.size = w.heap.size + 3 := by simp only [World.size_alloc]
  have hrd := tri_ready (R := R) (C := C) (R2 := R2) (C2 := C2) (unit := unit) (hA.behind B0) (hB.behind B0) hx hy
  generalize readyE (finM R C m xs) (finM R2 C2 n ys) R C R2 unit xs = E at *
  have hne : (E != 0) = true := bne_iff_ne.2 hr
  have c0 := G1.cell (i := 0) rfl
  have c1 := G1.cell (i := 1) rfl
  have c2 := G1.cell (i := 2) rfl
  have d0 := G2.cell (i := 0) rfl
  have d1 := G2.cell (i := 1) rfl
  have d2 := G2.cell (i := 2) rfl
  clear hA hB hx hy hr hw1 j3
  go_enter Try.func24, Try.ntmps24
  go_wp2_with fail
  generalize ((w.alloc (.cells #[.int .i64 R, .int .i64 C, .slice a m cap] 24)).alloc (.cells #[.int .i64 R2, .int .i64 C2, .slice b n cap2] 24)).alloc (.cells #[.int .i64 0, .int .i64 0, .slice none 0 0] 24) = W0 at *
  refine hrd.mono ?_
  rintro e w1 ⟨rfl, b1⟩
  have K := G3.behind b1
  have g0 := K.cell (i := 0) rfl
  have g1 := K.cell (i := 1) rfl
  have g2 := K.cell (i := 2) rfl
  have f0 := K.f 0
  have f1 := K.f 1
  have f2 := K.f 2
  have HB := Lib.hid (below_both B0 b1)
  clear G1 G2 G3 K b1 hrd c0 c1 c2 d0 d1 d2 B0 hsz
  go_wp2
  exact bodyPost_ret (v := .tuple #[.agg #[.int .i64 0, .int .i64 0, .slice none 0 0], .int .i64 E]) (by simp [results, Try.results24, go_sem, g0, g1, g2]) rfl ⟨rfl, HB.out.put3 (by omega) _ _ _⟩
set_option maxRecDepth 100000 in
set_option maxHeartbeats 16000000 in
theorem tri_lower_yes {R c : Nat} {unit : Bool} {a b : Option Addr} {m n cap cap2 : Nat} {xs ys : List Nat} {w : World} (hA : Arg w (.slice a m cap) xs) (hB : Arg w (.slice b n cap2) ys) (hx : Low 18446744073709551616 xs) (hy : Low 18446744073709551616 ys)
    (hr : readyE (finM R R m xs) (finM R c n ys) R R R unit xs = 0) (h1 : finM R R m xs = 0) (h2 : finM R c n ys = 0) :
    Calls Try.prog 24 #[.agg #[.int .i64 (R : Int), .int .i64 (R : Int), .slice a m cap], .bool unit, .agg #[.int .i64 (R : Int), .int .i64 (c : Int), .slice b n cap2]] w fun e W' => ∃ R3 C3 b3 n3 c3, e = .returned (.tuple #[.agg #[.int .i64 R3, .int .i64 C3, .slice b3 n3 c3], .int .i64 (tellV (solX false R c xs unit ys R) 0)]) ∧ New w.heap.size W' (.slice b3 n3 c3) (if tellV (solX false R c xs unit ys R) 0 = 0 then solX false R c xs unit ys R else []) ∧ (tellV (solX false R c xs unit ys R) 0 = 0 → R3 = R ∧ C3 = c) ∧ (tellV (solX false R c xs unit ys R) 0 ≠ 0 → R3 = 0 ∧ C3 = 0) ∧ Below w.heap.size w W' := by
  have hpos : 0 < w.heap.size := by obtain ⟨S, hS, _⟩ := hA; omega
  have hmx : m = xs.length := by
    obtain ⟨a', c', e⟩ := hA.slice
    simp only [Value.slice.injEq] at e
    omega
  have hnx : n = ys.length := by
    obtain ⟨a', c', e⟩ := hB.slice
    simp only [Value.slice.injEq] at e
    omega
  have hm1 := (finM_ok h1).1
  have hm2 := (finM_ok h2).1
  obtain ⟨p1, p2, p3, p4, p5⟩ := mayM_iff.1 hm1
  obtain ⟨q1, q2, q3, q4, q5⟩ := mayM_iff.1 hm2
  have hmn : m = R * R := by rw [← Int.natCast_mul] at p5; omega
  have hnn : n = R * c := by rw [← Int.natCast_mul] at q5; omega
  have hRc : R * c ≤ 64 * 64 := Nat.mul_le_mul (by omega) (by omega)
  have hxf : finB xs (R * R) = true := by
    have h := h1
    rw [hmx] at h hm1
    rw [finM_may hm1] at h
    cases g : finB xs xs.length
    · rw [g] at h; exact absurd h (by decide)
    · rw [← hmn, hmx]; exact g
  have hyf : finB ys (R * c) = true := by
    have h := h2
    rw [hnx] at h hm2
    rw [finM_may hm2] at h
    cases g : finB ys ys.length
    · rw [g] at h; exact absurd h (by decide)
    · rw [← hnn, hnx]; exact g
  obtain ⟨S, off, cp, e, HX⟩ := tri_at hA (by rw [← hmx, hmn]; exact Nat.mul_pos (by omega) (by omega))
  have hcap : m ≤ cap := by
    obtain ⟨S', hS', hR'⟩ := hA
    obtain ⟨a', c', e', hc', _⟩ := hR'.slice
    simp only [Value.slice.injEq] at e'
    have : 0 < xs.length := by rw [← hmx, hmn]; exact Nat.mul_pos (by omega) (by omega)
    omega
  simp only [Value.slice.injEq] at e
  obtain ⟨rfl, -, rfl⟩ := e
  have hXl : ∀ k, k ≤ R → (solX false R c xs unit ys k).length = R * c := solX_length (by rw [← hnx]; exact hnn)
  obtain ⟨XL, hXL⟩ : ∃ f, f = solX false R c xs unit ys := ⟨_, rfl⟩
  obtain ⟨E, hE⟩ : ∃ E, E = tellV (solX false R c xs unit ys R) 0 := ⟨_, rfl⟩
  rw [← hE]
  obtain ⟨Z, hZ⟩ : ∃ Z, Z = if E = 0 then solX false R c xs unit ys R else [] := ⟨_, rfl⟩
  rw [← hZ]
  rw [← hXL] at hE hZ hXl
  have HE : Hid ((finB (XL R) (R * c) = true → E = 0 ∧ Z = XL R) ∧ (finB (XL R) (R * c) = false → E = 13 ∧ Z = [])) := Lib.hid (by
    refine ⟨fun h => ?_, fun h => ?_⟩
    · have h0 : E = 0 := by rw [hE, tellV_yes, hXl R (Nat.le_refl _), h]; rfl
      exact ⟨h0, by rw [hZ, if_pos h0]⟩
    · have h0 : E = 13 := by rw [hE, tellV_yes, hXl R (Nat.le_refl _), h]; rfl
      exact ⟨h0, by rw [hZ, if_neg (by rw [h0]; decide)]⟩)
  have HX0 : Hid (ys = XL 0 ∧ finB (XL 0) (R * c) = true) := Lib.hid (by rw [hXL]; exact ⟨rfl, hyf⟩)
  have HNL : Hid (0 < (zn ys).length ∧ (zn ys).length = n ∧ ys.length ≤ 17592186044416) := Lib.hid (by rw [zn_length, ← hnx, hnn]; exact ⟨Nat.mul_pos (by omega) (by omega), rfl, by omega⟩)
  have HSV : Hid (∀ k, k < R → ∀ (W : World) (d c8 : Nat), OwnK .u64 32 w.heap.size W (.slice (some ⟨d, 0, none⟩) n c8) (zn (XL k)) → Below w.heap.size w W → finB (XL k) (R * c) = true →
      Calls Try.prog 69 #[.agg #[.int .i64 (R : Int), .int .i64 (R : Int), .slice (some ⟨S, off, none⟩) m cap], .bool unit, .agg #[.int .i64 (R : Int), .int .i64 (c : Int), .slice (some ⟨d, 0, none⟩) n c8], .int .i64 (k : Int), .int .i64 0, .int .i64 (k : Int)] W fun e W' =>
        ((e = .returned (.int .i64 0) ∧ OwnK .u64 32 w.heap.size W' (.slice (some ⟨d, 0, none⟩) n c8) (zn (XL (k + 1))) ∧ finB (XL (k + 1)) (R * c) = true) ∨ (e = .returned (.int .i64 13) ∧ finB (XL R) (R * c) = false)) ∧ But1 d W W' ∧ Below w.heap.size W W') := Lib.hid (fun k hk W d c8 hO hW hf => by
    rw [hXL] at hO hf
    have h := tri_solve (unit := unit) (i := rowI false R k) (first := fstI false R k) (n := k) (Lib.hid fun W' hb q hq => HX.out W' (hW.trans hb) q (by rw [← hmx, hmn]; exact hq)) hmn hcap hO hW.size (hXL ▸ hXl k (by omega)) hnn ⟨by omega, by omega⟩ ⟨by omega, by omega⟩ (rowI_lt hk) (by unfold fstI; first | omega | (rw [if_pos rfl]; omega) | (rw [if_neg (by decide)]; omega)) (by intro j hj; unfold rowI fstI; first | (rw [if_pos rfl, if_pos rfl]; omega) | (rw [if_neg (by decide), if_neg (by decide)]; omega)) hx (solX_low hy k) hxf hf
    refine h.mono ?_
    rintro e W' ⟨rfl, ho, hu, hb⟩
    refine ⟨?_, hu, hb⟩
    rw [hXL]
    cases g : finB (rowV c (solN R c xs (solX false R c xs unit ys k) (rowI false R k) (fstI false R k) k unit)) c
    · refine .inr ⟨by unfold solE; rw [g]; rfl, solX_not (hnx.symm.trans hnn) hk g⟩
    · have h0 : solE R c xs (solX false R c xs unit ys k) (rowI false R k) (fstI false R k) k unit = 0 := by unfold solE; rw [g]; rfl
      refine .inl ⟨by rw [h0], ho h0, ?_⟩
      have hl : (solX false R c xs unit ys k).length = R * c := hXL ▸ hXl k (by omega)
      have := splice_fin (a := rowI false R k) (by rw [hl]; exact rowI_fit hk) (by rw [hl]; exact hf) g
      rw [hl] at this
      exact this)
  obtain ⟨B0, G1, G2, hw1⟩ := vboxm w #[.int .i64 (R : Int), .int .i64 (R : Int), .slice (some ⟨S, off, none⟩) m cap] #[.int .i64 (R : Int), .int .i64 (c : Int), .slice b n cap2] 24 24 _ rfl
  obtain ⟨j3, G3⟩ := mbox ((w.alloc (.cells #[.int .i64 (R : Int), .int .i64 (R : Int), .slice (some ⟨S, off, none⟩) m cap] 24)).alloc (.cells #[.int .i64 (R : Int), .int .i64 (c : Int), .slice b n cap2] 24)) #[.int .i64 0, .int .i64 0, .slice none 0 0] 24 _ rfl
  replace G1 := G1.behind j3
  replace G2 := G2.behind j3
  replace B0 := below_both B0 j3
  simp only [World.size_alloc] at G3
  have hsz : (((w.alloc (.cells #[.int .i64 (R : Int), .int .i64 (R : Int), .slice (some ⟨S, off, none⟩) m cap] 24)).alloc (.cells #[.int .i64 (R : Int), .int .i64 (c : Int), .slice b n cap2] 24)).alloc (.cells #[.int .i64 0, .int .i64 0, .slice none 0 0] 24)).heap.size = w.heap.size + 3 := by simp only [World.size_alloc]
  have hrd := tri_ready (R := (R : Int)) (C := (R : Int)) (R2 := (R : Int)) (C2 := (c : Int)) (unit := unit) (hA.behind B0) (hB.behind B0) hx hy
  rw [hr] at hrd
  have HCL := Lib.hid (fun (W : World) (h : Below w.heap.size w W) => clone_own (.slice b n cap2) ys HNL.out.2.2 W (hB.behind h))
  have c0 := G1.cell (i := 0) rfl
  have c1 := G1.cell (i := 1) rfl
  have c2 := G1.cell (i := 2) rfl
  have d0 := G2.cell (i := 0) rfl
  have d1 := G2.cell (i := 1) rfl
  have d2 := G2.cell (i := 2) rfl
  have hR64 : (R : Int) ≤ 64 := by omega
  have hc64 : (c : Int) ≤ 64 := by omega
  clear hA hB hx hy hr h1 h2 hw1 j3 hmx hnx hm1 hm2 p1 p2 p3 p4 p5 q1 q2 q3 q4 q5 hmn hnn hRc hxf hyf hcap hXl hXL hE hZ HX
  go_enter Try.func24, Try.ntmps24
  go_wp2_with fail
  generalize ((w.alloc (.cells #[.int .i64 (R : Int), .int .i64 (R : Int), .slice (some ⟨S, off, none⟩) m cap] 24)).alloc (.cells #[.int .i64 (R : Int), .int .i64 (c : Int), .slice b n cap2] 24)).alloc (.cells #[.int .i64 0, .int .i64 0, .slice none 0 0] 24) = W0 at *
  refine hrd.mono ?_
  rintro e w1 ⟨rfl, b1⟩
  have HW1 : Hid (w.heap.size + 3 ≤ w1.heap.size) := Lib.hid (by have := b1.size; omega)
  have K1 := G1.behind b1
  have K2 := G2.behind b1
  have K3 := G3.behind b1
  have BW := below_both B0 b1
  clear G1 G2 G3 b1 hrd c0 c1 c2 d0 d1 d2 B0 hsz
  have HK : Hid (∀ W, Below w1.heap.size w1 W → W.cell? ⟨w.heap.size + 1, 0, none⟩ = some (.int .i64 (R : Int)) ∧ W.cell? ⟨w.heap.size + 1, 1, none⟩ = some (.int .i64 (c : Int)) ∧ W.cell? ⟨w.heap.size + 1, 2, none⟩ = some (.slice b n cap2)) := Lib.hid (fun W h =>
    ⟨(K2.behind h).cell (i := 0) rfl, (K2.behind h).cell (i := 1) rfl, (K2.behind h).cell (i := 2) rfl⟩)
  have HBW := Lib.hid BW
  have Br : Below w1.heap.size w1 w1 := Below.refl _ _
  have HC2 := Lib.hid (fun W (h : Below w1.heap.size w1 W) => HCL.out W (below_both HBW.out h))
  clear BW
  go_upto_region 4 with (fail)
  go_cut [9] from 17 to 27 (fun p wx => ∃ g d c8 : Nat, p = .pointer (some ⟨g, 0, none⟩) ∧ w1.heap.size ≤ g ∧ Ms wx g #[.int .i64 (R : Int), .int .i64 (c : Int), .slice (some ⟨d, 0, none⟩) n c8] 24 ∧ OwnK .u64 32 w1.heap.size wx (.slice (some ⟨d, 0, none⟩) n c8) (zn ys) ∧ g ≠ d ∧ Below w1.heap.size w1 wx)
  case first =>
   as_aux_lemma =>
    go_region_held3 (fun W => W.cell? ⟨w.heap.size + 1, 0, none⟩ = some (.int .i64 (R : Int)) ∧ W.cell? ⟨w.heap.size + 1, 1, none⟩ = some (.int .i64 (c : Int)) ∧ W.cell? ⟨w.heap.size + 1, 2, none⟩ = some (.slice b n cap2))
      (first | with_reducible exact HK.out _ Br | with_reducible exact HK.out _ Br.drew | with_reducible exact HK.out _ (Br.alloc Br.size _) | with_reducible exact HK.out _ (Br.alloc Br.size _).drew | with_reducible exact HK.out _ (Br.drew.alloc Br.drew.size _) | with_reducible exact HK.out _ (Br.drew.alloc Br.drew.size _).drew | with_reducible exact HK.out _ (Br.put3 F.1 _ _ _) | with_reducible exact HK.out _ (Br.drew.put3 F.1 _ _ _) | (trace_state; fail))
      (first
        | (go_at_call 68; (with_reducible refine (HC2.out _ (by first | with_reducible exact Br | with_reducible exact Br.drew | with_reducible exact (Br.alloc Br.size _) | with_reducible exact (Br.alloc Br.size _).drew | with_reducible exact (Br.drew.alloc Br.drew.size _) | with_reducible exact (Br.drew.alloc Br.drew.size _).drew)).mono ?_); rintro e v5 ⟨v', rfl, ho, bz⟩; (first | (with_reducible have F : _ ∧ _ := ⟨Br.size, new_ms bz⟩) | (with_reducible have F : _ ∧ _ := ⟨Br.size, new_msd bz⟩) | (with_reducible have F : _ ∧ _ := ⟨Br.drew.size, new_ms bz⟩) | (with_reducible have F : _ ∧ _ := ⟨Br.drew.size, new_msd bz⟩) | skip); (obtain ⟨d, c8, hev, hd1, hd2⟩ := ho.form HNL.out.1); rw [HNL.out.2.1] at hev; subst hev; (replace ho := OwnK.mono ho (show w1.heap.size ≤ _ from (by first | exact Br.size | (simp only [World.size_alloc, World.drew]; have := Br.size; omega)))); (first | replace Br := below_both Br bz | replace Br := below_both Br.drew bz | replace Br := below_both (Br.alloc Br.size _) bz | replace Br := below_both (Br.alloc Br.size _).drew bz | replace Br := below_both (Br.drew.alloc Br.drew.size _) bz | replace Br := below_both (Br.drew.alloc Br.drew.size _).drew bz); clear bz; (first | (have z0 := F.2.cell (i := 0) rfl; have z1 := F.2.cell (i := 1) rfl; have z2 := F.2.cell (i := 2) rfl; have h0 := F.2.f 0; have h1 := F.2.f 1; have h2 := F.2.f 2) | skip)))
    all_goals
      go_wp2_with fail
      go_meet
      first
      | exact ⟨_, d, c8, rfl, Br.size, (mbox _ #[.int .i64 (R : Int), .int .i64 (c : Int), .slice (some ⟨d, 0, none⟩) n c8] 24 _ rfl).2, ho.alloc _, (by omega), Br.alloc Br.size _⟩
      | exact ⟨_, d, c8, rfl, F.1, ms_put3' F.2, ho.other (heap_put3' (by simp only [World.size_alloc, World.drew] at hd1; omega)), (by simp only [World.size_alloc, World.drew] at hd1; omega), Br.put3 F.1 _ _ _⟩
  obtain ⟨g, d, c8, rfl, hg, L, ho, hgd, bw⟩ := hcut
  obtain ⟨w4, rfl⟩ : ∃ wo, wo = wc := ⟨_, rfl⟩
  obtain ⟨d', c8', ed, hd1, hd2⟩ := ho.form HNL.out.1
  simp only [Value.slice.injEq, Option.some.injEq, Addr.mk.injEq, and_true] at ed
  obtain ⟨rfl, -, -⟩ := ed
  replace K1 := K1.behind bw
  replace K3 := K3.behind bw
  have HB4 := Lib.hid (below_both HBW.out bw)
  have HO4 := Lib.hid (OwnK.mono ho (show w.heap.size ≤ w1.heap.size by have := HW1.out; omega))
  have HSZ : Hid (w.heap.size + 3 ≤ w1.heap.size ∧ w1.heap.size ≤ d ∧ d < w4.heap.size ∧ g ≠ d ∧ w1.heap.size ≤ g) := Lib.hid ⟨HW1.out, hd1, hd2, hgd, hg⟩
  have c0 := K1.cell (i := 0) rfl
  clear K2 HK HC2 HCL Br ho bw hd1 hd2 hgd hg
  go_wp2
  go_loopw [30] (fun i wx => ∃ k : Nat, k ≤ R ∧ i = .int .i64 k ∧ OwnK .u64 32 w.heap.size wx (.slice (some ⟨d, 0, none⟩) n c8) (zn (XL k)) ∧ But1 d w4 wx ∧ Below w.heap.size w wx ∧ Hid (finB (XL k) (R * c) = true)) (fun i _ => R - (intOf i).toNat)
  case atStart => exact ⟨0, Nat.zero_le _, rfl, by rw [← HX0.out.1]; exact HO4.out, But1.refl _ _, HB4.out, Lib.hid HX0.out.2⟩
  case round =>
    obtain ⟨k, hk, rfl, ho, hU, hBb, HF⟩ := hrel
    clear c0
    have L2 := hU.ms L (by have := HSZ.out; omega)
    have L1 := hU.ms K1 (by have := HSZ.out; omega)
    have L3 := hU.ms K3 (by have := HSZ.out; omega)
    have c0 := L1.cell (i := 0) rfl
    have c1 := L1.cell (i := 1) rfl
    have c2 := L1.cell (i := 2) rfl
    have d0 := L2.cell (i := 0) rfl
    have d1 := L2.cell (i := 1) rfl
    have d2 := L2.cell (i := 2) rfl
    by_cases hlt : k < R
    · have h := HSV.out k hlt wr d c8 ho hBb HF.out
      have q : decide ((k : Int) < (R : Int)) = true := decide_eq_true (by omega)
      have HH := Lib.hid (And.intro hU hBb)
      clear ho hU hBb
      go_wp2_with fail
      refine h.mono ?_
      rintro e w6 ⟨⟨rfl, ho6, hf6⟩ | ⟨rfl, hf6⟩, hu6, hb6⟩
      · have HF6 := Lib.hid hf6
        clear hf6 h
        go_wp2
        exact ⟨⟨k + 1, by omega, by simp, ho6, HH.out.1.trans2 hu6, HH.out.2.trans hb6, HF6⟩, by simp [intOf]; omega⟩
      · have HT := Lib.hid (HE.out.2 hf6)
        have L6 := hu6.ms L3 (by have := HSZ.out; omega)
        have g0 := L6.cell (i := 0) rfl
        have g1 := L6.cell (i := 1) rfl
        have g2 := L6.cell (i := 2) rfl
        have f0 := L6.f 0
        have f1 := L6.f 1
        have f2 := L6.f 2
        have HBX := Lib.hid (HH.out.2.trans hb6)
        clear hf6 h L6 hu6 hb6 L1 L2 L3 c0 c1 c2 d0 d1 d2
        go_wp2
        exact bodyPost_ret (v := .tuple #[.agg #[.int .i64 0, .int .i64 0, .slice none 0 0], .int .i64 13]) (by simp [results, Try.results24, go_sem, g0, g1, g2]) rfl
          ⟨0, 0, none, 0, 0, by rw [HT.out.1], by rw [HT.out.2]; exact new_nil _ hpos (HBX.out.put3 (by omega) _ _ _), fun h => absurd (HT.out.1.symm.trans h) (by decide), fun _ => ⟨rfl, rfl⟩, HBX.out.put3 (by omega) _ _ _⟩
    · obtain rfl : k = R := by omega
      have q : decide ((k : Int) < (k : Int)) = false := decide_eq_false (by omega)
      have HT := Lib.hid (HE.out.1 HF.out)
      have HOO := Lib.hid ho
      have HBX := Lib.hid hBb
      have g0 := L3.cell (i := 0) rfl
      have g1 := L3.cell (i := 1) rfl
      have g2 := L3.cell (i := 2) rfl
      have f0 := L3.f 0
      have f1 := L3.f 1
      have f2 := L3.f 2
      have hsw : 0 < wr.heap.size := by have := hBb.size; omega
      clear ho hU hBb hlt L1 L2 L3 c0 c1 c2
      go_wp2
      exact bodyPost_ret (v := .tuple #[.agg #[.int .i64 (k : Int), .int .i64 (c : Int), .slice (some ⟨d, 0, none⟩) n c8], .int .i64 0]) (by simp [results, Try.results24, go_sem, g0, g1, g2]) rfl
        ⟨k, c, _, _, _, by rw [HT.out.1], by rw [HT.out.2]; exact new_zn.2 ((HOO.out.other (heap_put3' (by have := HSZ.out; omega))).new (by simpa only [World.size_setCell] using hsw)), fun _ => ⟨rfl, rfl⟩, fun h => absurd HT.out.1 h, HBX.out.put3 (by omega) _ _ _⟩
end Go.Proofs.Ytdonecohnemomaa

/- tri: Upper. -/
namespace Go.Proofs.Ytdonecohnemomaa
open Go.RowKit Go.Shelf
set_option maxRecDepth 100000 in
set_option maxHeartbeats 16000000 in
theorem tri_upper_no {R C R2 C2 : Int} {unit : Bool} {a b : Option Addr} {m n cap cap2 : Nat} {xs ys : List Nat} {w : World} (hA : Arg w (.slice a m cap) xs) (hB : Arg w (.slice b n cap2) ys) (hx : Low 18446744073709551616 xs) (hy : Low 18446744073709551616 ys)
    (hr : readyE (finM R C m xs) (finM R2 C2 n ys) R C R2 unit xs ≠ 0) :
    Calls Try.prog 25 #[.agg #[.int .i64 R, .int .i64 C, .slice a m cap], .bool unit, .agg #[.int .i64 R2, .int .i64 C2, .slice b n cap2]] w fun e W' => e = .returned (.tuple #[.agg #[.int .i64 0, .int .i64 0, .slice none 0 0], .int .i64 (readyE (finM R C m xs) (finM R2 C2 n ys) R C R2 unit xs)]) ∧ Below w.heap.size w W' := by
  obtain ⟨B0, G1, G2, hw1⟩ := vboxm w #[.int .i64 R, .int .i64 C, .slice a m cap] #[.int .i64 R2, .int .i64 C2, .slice b n cap2] 24 24 _ rfl
  obtain ⟨j3, G3⟩ := mbox ((w.alloc (.cells #[.int .i64 R, .int .i64 C, .slice a m cap] 24)).alloc (.cells #[.int .i64 R2, .int .i64 C2, .slice b n cap2] 24)) #[.int .i64 0, .int .i64 0, .slice none 0 0] 24 _ rfl
  replace G1 := G1.behind j3
  replace G2 := G2.behind j3
  replace B0 := below_both B0 j3
  simp only [World.size_alloc] at G3
  have hsz : (((w.alloc (.cells #[.int .i64 R, .int .i64 C, .slice a m cap] 24)).alloc (.cells #[.int .i64 R2, .int .i64 C2, .slice b n cap2] 24)).alloc (.cells #[.int .i64 0, .int .i64 0, .slice none 0 0] 24)).heap.size = w.heap.size + 3 := by simp only [World.size_alloc]
  have hrd := tri_ready (R := R) (C := C) (R2 := R2) (C2 := C2) (unit := unit) (hA.behind B0) (hB.behind B0) hx hy
  generalize readyE (finM R C m xs) (finM R2 C2 n ys) R C R2 unit xs = E at *
  have hne : (E != 0) = true := bne_iff_ne.2 hr
  have c0 := G1.cell (i := 0) rfl
  have c1 := G1.cell (i := 1) rfl
  have c2 := G1.cell (i := 2) rfl
  have d0 := G2.cell (i := 0) rfl
  have d1 := G2.cell (i := 1) rfl
  have d2 := G2.cell (i := 2) rfl
  clear hA hB hx hy hr hw1 j3
  go_enter Try.func25, Try.ntmps25
  go_wp2_with fail
  generalize ((w.alloc (.cells #[.int .i64 R, .int .i64 C, .slice a m cap] 24)).alloc (.cells #[.int .i64 R2, .int .i64 C2, .slice b n cap2] 24)).alloc (.cells #[.int .i64 0, .int .i64 0, .slice none 0 0] 24) = W0 at *
  refine hrd.mono ?_
  rintro e w1 ⟨rfl, b1⟩
  have K := G3.behind b1
  have g0 := K.cell (i := 0) rfl
  have g1 := K.cell (i := 1) rfl
  have g2 := K.cell (i := 2) rfl
  have f0 := K.f 0
  have f1 := K.f 1
  have f2 := K.f 2
  have HB := Lib.hid (below_both B0 b1)
  clear G1 G2 G3 K b1 hrd c0 c1 c2 d0 d1 d2 B0 hsz
  go_wp2
  exact bodyPost_ret (v := .tuple #[.agg #[.int .i64 0, .int .i64 0, .slice none 0 0], .int .i64 E]) (by simp [results, Try.results25, go_sem, g0, g1, g2]) rfl ⟨rfl, HB.out.put3 (by omega) _ _ _⟩
set_option maxRecDepth 100000 in
set_option maxHeartbeats 16000000 in
theorem tri_upper_yes {R c : Nat} {unit : Bool} {a b : Option Addr} {m n cap cap2 : Nat} {xs ys : List Nat} {w : World} (hA : Arg w (.slice a m cap) xs) (hB : Arg w (.slice b n cap2) ys) (hx : Low 18446744073709551616 xs) (hy : Low 18446744073709551616 ys)
    (hr : readyE (finM R R m xs) (finM R c n ys) R R R unit xs = 0) (h1 : finM R R m xs = 0) (h2 : finM R c n ys = 0) :
    Calls Try.prog 25 #[.agg #[.int .i64 (R : Int), .int .i64 (R : Int), .slice a m cap], .bool unit, .agg #[.int .i64 (R : Int), .int .i64 (c : Int), .slice b n cap2]] w fun e W' => ∃ R3 C3 b3 n3 c3, e = .returned (.tuple #[.agg #[.int .i64 R3, .int .i64 C3, .slice b3 n3 c3], .int .i64 (tellV (solX true R c xs unit ys R) 0)]) ∧ New w.heap.size W' (.slice b3 n3 c3) (if tellV (solX true R c xs unit ys R) 0 = 0 then solX true R c xs unit ys R else []) ∧ (tellV (solX true R c xs unit ys R) 0 = 0 → R3 = R ∧ C3 = c) ∧ (tellV (solX true R c xs unit ys R) 0 ≠ 0 → R3 = 0 ∧ C3 = 0) ∧ Below w.heap.size w W' := by
  have hpos : 0 < w.heap.size := by obtain ⟨S, hS, _⟩ := hA; omega
  have hmx : m = xs.length := by
    obtain ⟨a', c', e⟩ := hA.slice
    simp only [Value.slice.injEq] at e
    omega
  have hnx : n = ys.length := by
    obtain ⟨a', c', e⟩ := hB.slice
    simp only [Value.slice.injEq] at e
    omega
  have hm1 := (finM_ok h1).1
  have hm2 := (finM_ok h2).1
  obtain ⟨p1, p2, p3, p4, p5⟩ := mayM_iff.1 hm1
  obtain ⟨q1, q2, q3, q4, q5⟩ := mayM_iff.1 hm2
  have hmn : m = R * R := by rw [← Int.natCast_mul] at p5; omega
  have hnn : n = R * c := by rw [← Int.natCast_mul] at q5; omega
  have hRc : R * c ≤ 64 * 64 := Nat.mul_le_mul (by omega) (by omega)
  have hxf : finB xs (R * R) = true := by
    have h := h1
    rw [hmx] at h hm1
    rw [finM_may hm1] at h
    cases g : finB xs xs.length
    · rw [g] at h; exact absurd h (by decide)
    · rw [← hmn, hmx]; exact g
  have hyf : finB ys (R * c) = true := by
    have h := h2
    rw [hnx] at h hm2
    rw [finM_may hm2] at h
    cases g : finB ys ys.length
    · rw [g] at h; exact absurd h (by decide)
    · rw [← hnn, hnx]; exact g
  obtain ⟨S, off, cp, e, HX⟩ := tri_at hA (by rw [← hmx, hmn]; exact Nat.mul_pos (by omega) (by omega))
  have hcap : m ≤ cap := by
    obtain ⟨S', hS', hR'⟩ := hA
    obtain ⟨a', c', e', hc', _⟩ := hR'.slice
    simp only [Value.slice.injEq] at e'
    have : 0 < xs.length := by rw [← hmx, hmn]; exact Nat.mul_pos (by omega) (by omega)
    omega
  simp only [Value.slice.injEq] at e
  obtain ⟨rfl, -, rfl⟩ := e
  have hXl : ∀ k, k ≤ R → (solX true R c xs unit ys k).length = R * c := solX_length (by rw [← hnx]; exact hnn)
  obtain ⟨XL, hXL⟩ : ∃ f, f = solX true R c xs unit ys := ⟨_, rfl⟩
  obtain ⟨E, hE⟩ : ∃ E, E = tellV (solX true R c xs unit ys R) 0 := ⟨_, rfl⟩
  rw [← hE]
  obtain ⟨Z, hZ⟩ : ∃ Z, Z = if E = 0 then solX true R c xs unit ys R else [] := ⟨_, rfl⟩
  rw [← hZ]
  rw [← hXL] at hE hZ hXl
  have HE : Hid ((finB (XL R) (R * c) = true → E = 0 ∧ Z = XL R) ∧ (finB (XL R) (R * c) = false → E = 13 ∧ Z = [])) := Lib.hid (by
    refine ⟨fun h => ?_, fun h => ?_⟩
    · have h0 : E = 0 := by rw [hE, tellV_yes, hXl R (Nat.le_refl _), h]; rfl
      exact ⟨h0, by rw [hZ, if_pos h0]⟩
    · have h0 : E = 13 := by rw [hE, tellV_yes, hXl R (Nat.le_refl _), h]; rfl
      exact ⟨h0, by rw [hZ, if_neg (by rw [h0]; decide)]⟩)
  have HX0 : Hid (ys = XL 0 ∧ finB (XL 0) (R * c) = true) := Lib.hid (by rw [hXL]; exact ⟨rfl, hyf⟩)
  have HNL : Hid (0 < (zn ys).length ∧ (zn ys).length = n ∧ ys.length ≤ 17592186044416) := Lib.hid (by rw [zn_length, ← hnx, hnn]; exact ⟨Nat.mul_pos (by omega) (by omega), rfl, by omega⟩)
  have HSV : Hid (∀ k, k < R → ∀ (W : World) (d c8 : Nat), OwnK .u64 32 w.heap.size W (.slice (some ⟨d, 0, none⟩) n c8) (zn (XL k)) → Below w.heap.size w W → finB (XL k) (R * c) = true →
      Calls Try.prog 69 #[.agg #[.int .i64 (R : Int), .int .i64 (R : Int), .slice (some ⟨S, off, none⟩) m cap], .bool unit, .agg #[.int .i64 (R : Int), .int .i64 (c : Int), .slice (some ⟨d, 0, none⟩) n c8], .int .i64 (rowI true R k : Int), .int .i64 (fstI true R k : Int), .int .i64 (k : Int)] W fun e W' =>
        ((e = .returned (.int .i64 0) ∧ OwnK .u64 32 w.heap.size W' (.slice (some ⟨d, 0, none⟩) n c8) (zn (XL (k + 1))) ∧ finB (XL (k + 1)) (R * c) = true) ∨ (e = .returned (.int .i64 13) ∧ finB (XL R) (R * c) = false)) ∧ But1 d W W' ∧ Below w.heap.size W W') := Lib.hid (fun k hk W d c8 hO hW hf => by
    rw [hXL] at hO hf
    have h := tri_solve (unit := unit) (i := rowI true R k) (first := fstI true R k) (n := k) (Lib.hid fun W' hb q hq => HX.out W' (hW.trans hb) q (by rw [← hmx, hmn]; exact hq)) hmn hcap hO hW.size (hXL ▸ hXl k (by omega)) hnn ⟨by omega, by omega⟩ ⟨by omega, by omega⟩ (rowI_lt hk) (by unfold fstI; first | omega | (rw [if_pos rfl]; omega) | (rw [if_neg (by decide)]; omega)) (by intro j hj; unfold rowI fstI; first | (rw [if_pos rfl, if_pos rfl]; omega) | (rw [if_neg (by decide), if_neg (by decide)]; omega)) hx (solX_low hy k) hxf hf
    refine h.mono ?_
    rintro e W' ⟨rfl, ho, hu, hb⟩
    refine ⟨?_, hu, hb⟩
    rw [hXL]
    cases g : finB (rowV c (solN R c xs (solX true R c xs unit ys k) (rowI true R k) (fstI true R k) k unit)) c
    · refine .inr ⟨by unfold solE; rw [g]; rfl, solX_not (hnx.symm.trans hnn) hk g⟩
    · have h0 : solE R c xs (solX true R c xs unit ys k) (rowI true R k) (fstI true R k) k unit = 0 := by unfold solE; rw [g]; rfl
      refine .inl ⟨by rw [h0], ho h0, ?_⟩
      have hl : (solX true R c xs unit ys k).length = R * c := hXL ▸ hXl k (by omega)
      have := splice_fin (a := rowI true R k) (by rw [hl]; exact rowI_fit hk) (by rw [hl]; exact hf) g
      rw [hl] at this
      exact this)
  have HIX : Hid (∀ k, k < R → IntKind.i64.wrap ((R : Int) - 1) = ((R - 1 : Nat) : Int) ∧ IntKind.i64.wrap (((R - 1 : Nat) : Int) - (k : Int)) = ((rowI true R k : Nat) : Int) ∧ IntKind.i64.wrap (((rowI true R k : Nat) : Int) + 1) = ((fstI true R k : Nat) : Int)) := Lib.hid (fun k hk => by
    have e1 : ((R : Int) - 1) = ((R - 1 : Nat) : Int) := by omega
    have e2 : (((R - 1 : Nat) : Int) - (k : Int)) = ((rowI true R k : Nat) : Int) := by unfold rowI; rw [if_pos rfl]; omega
    have e3 : (((rowI true R k : Nat) : Int) + 1) = ((fstI true R k : Nat) : Int) := by unfold rowI fstI; rw [if_pos rfl, if_pos rfl]; omega
    have l1 := rowI_lt (up := true) hk
    have l2 : fstI true R k ≤ 64 := by unfold fstI; rw [if_pos rfl]; omega
    rw [e1, e2, e3]
    exact ⟨IntWalk.i64_in _ (by omega), IntWalk.i64_in _ (by omega), IntWalk.i64_in _ (by omega)⟩)
  obtain ⟨B0, G1, G2, hw1⟩ := vboxm w #[.int .i64 (R : Int), .int .i64 (R : Int), .slice (some ⟨S, off, none⟩) m cap] #[.int .i64 (R : Int), .int .i64 (c : Int), .slice b n cap2] 24 24 _ rfl
  obtain ⟨j3, G3⟩ := mbox ((w.alloc (.cells #[.int .i64 (R : Int), .int .i64 (R : Int), .slice (some ⟨S, off, none⟩) m cap] 24)).alloc (.cells #[.int .i64 (R : Int), .int .i64 (c : Int), .slice b n cap2] 24)) #[.int .i64 0, .int .i64 0, .slice none 0 0] 24 _ rfl
  replace G1 := G1.behind j3
  replace G2 := G2.behind j3
  replace B0 := below_both B0 j3
  simp only [World.size_alloc] at G3
  have hsz : (((w.alloc (.cells #[.int .i64 (R : Int), .int .i64 (R : Int), .slice (some ⟨S, off, none⟩) m cap] 24)).alloc (.cells #[.int .i64 (R : Int), .int .i64 (c : Int), .slice b n cap2] 24)).alloc (.cells #[.int .i64 0, .int .i64 0, .slice none 0 0] 24)).heap.size = w.heap.size + 3 := by simp only [World.size_alloc]
  have hrd := tri_ready (R := (R : Int)) (C := (R : Int)) (R2 := (R : Int)) (C2 := (c : Int)) (unit := unit) (hA.behind B0) (hB.behind B0) hx hy
  rw [hr] at hrd
  have HCL := Lib.hid (fun (W : World) (h : Below w.heap.size w W) => clone_own (.slice b n cap2) ys HNL.out.2.2 W (hB.behind h))
  have c0 := G1.cell (i := 0) rfl
  have c1 := G1.cell (i := 1) rfl
  have c2 := G1.cell (i := 2) rfl
  have d0 := G2.cell (i := 0) rfl
  have d1 := G2.cell (i := 1) rfl
  have d2 := G2.cell (i := 2) rfl
  have hR64 : (R : Int) ≤ 64 := by omega
  have hc64 : (c : Int) ≤ 64 := by omega
  clear hA hB hx hy hr h1 h2 hw1 j3 hmx hnx hm1 hm2 p1 p2 p3 p4 p5 q1 q2 q3 q4 q5 hmn hnn hRc hxf hyf hcap hXl hXL hE hZ HX
  go_enter Try.func25, Try.ntmps25
  go_wp2_with fail
  generalize ((w.alloc (.cells #[.int .i64 (R : Int), .int .i64 (R : Int), .slice (some ⟨S, off, none⟩) m cap] 24)).alloc (.cells #[.int .i64 (R : Int), .int .i64 (c : Int), .slice b n cap2] 24)).alloc (.cells #[.int .i64 0, .int .i64 0, .slice none 0 0] 24) = W0 at *
  refine hrd.mono ?_
  rintro e w1 ⟨rfl, b1⟩
  have HW1 : Hid (w.heap.size + 3 ≤ w1.heap.size) := Lib.hid (by have := b1.size; omega)
  have K1 := G1.behind b1
  have K2 := G2.behind b1
  have K3 := G3.behind b1
  have BW := below_both B0 b1
  clear G1 G2 G3 b1 hrd c0 c1 c2 d0 d1 d2 B0 hsz
  have HK : Hid (∀ W, Below w1.heap.size w1 W → W.cell? ⟨w.heap.size + 1, 0, none⟩ = some (.int .i64 (R : Int)) ∧ W.cell? ⟨w.heap.size + 1, 1, none⟩ = some (.int .i64 (c : Int)) ∧ W.cell? ⟨w.heap.size + 1, 2, none⟩ = some (.slice b n cap2)) := Lib.hid (fun W h =>
    ⟨(K2.behind h).cell (i := 0) rfl, (K2.behind h).cell (i := 1) rfl, (K2.behind h).cell (i := 2) rfl⟩)
  have HBW := Lib.hid BW
  have Br : Below w1.heap.size w1 w1 := Below.refl _ _
  have HC2 := Lib.hid (fun W (h : Below w1.heap.size w1 W) => HCL.out W (below_both HBW.out h))
  clear BW
  go_upto_region 4 with (fail)
  go_cut [9] from 18 to 28 (fun p wx => ∃ g d c8 : Nat, p = .pointer (some ⟨g, 0, none⟩) ∧ w1.heap.size ≤ g ∧ Ms wx g #[.int .i64 (R : Int), .int .i64 (c : Int), .slice (some ⟨d, 0, none⟩) n c8] 24 ∧ OwnK .u64 32 w1.heap.size wx (.slice (some ⟨d, 0, none⟩) n c8) (zn ys) ∧ g ≠ d ∧ Below w1.heap.size w1 wx)
  case first =>
   as_aux_lemma =>
    go_region_held3 (fun W => W.cell? ⟨w.heap.size + 1, 0, none⟩ = some (.int .i64 (R : Int)) ∧ W.cell? ⟨w.heap.size + 1, 1, none⟩ = some (.int .i64 (c : Int)) ∧ W.cell? ⟨w.heap.size + 1, 2, none⟩ = some (.slice b n cap2))
      (first | with_reducible exact HK.out _ Br | with_reducible exact HK.out _ Br.drew | with_reducible exact HK.out _ (Br.alloc Br.size _) | with_reducible exact HK.out _ (Br.alloc Br.size _).drew | with_reducible exact HK.out _ (Br.drew.alloc Br.drew.size _) | with_reducible exact HK.out _ (Br.drew.alloc Br.drew.size _).drew | with_reducible exact HK.out _ (Br.put3 F.1 _ _ _) | with_reducible exact HK.out _ (Br.drew.put3 F.1 _ _ _) | (trace_state; fail))
      (first
        | (go_at_call 68; (with_reducible refine (HC2.out _ (by first | with_reducible exact Br | with_reducible exact Br.drew | with_reducible exact (Br.alloc Br.size _) | with_reducible exact (Br.alloc Br.size _).drew | with_reducible exact (Br.drew.alloc Br.drew.size _) | with_reducible exact (Br.drew.alloc Br.drew.size _).drew)).mono ?_); rintro e v5 ⟨v', rfl, ho, bz⟩; (first | (with_reducible have F : _ ∧ _ := ⟨Br.size, new_ms bz⟩) | (with_reducible have F : _ ∧ _ := ⟨Br.size, new_msd bz⟩) | (with_reducible have F : _ ∧ _ := ⟨Br.drew.size, new_ms bz⟩) | (with_reducible have F : _ ∧ _ := ⟨Br.drew.size, new_msd bz⟩) | skip); (obtain ⟨d, c8, hev, hd1, hd2⟩ := ho.form HNL.out.1); rw [HNL.out.2.1] at hev; subst hev; (replace ho := OwnK.mono ho (show w1.heap.size ≤ _ from (by first | exact Br.size | (simp only [World.size_alloc, World.drew]; have := Br.size; omega)))); (first | replace Br := below_both Br bz | replace Br := below_both Br.drew bz | replace Br := below_both (Br.alloc Br.size _) bz | replace Br := below_both (Br.alloc Br.size _).drew bz | replace Br := below_both (Br.drew.alloc Br.drew.size _) bz | replace Br := below_both (Br.drew.alloc Br.drew.size _).drew bz); clear bz; (first | (have z0 := F.2.cell (i := 0) rfl; have z1 := F.2.cell (i := 1) rfl; have z2 := F.2.cell (i := 2) rfl; have h0 := F.2.f 0; have h1 := F.2.f 1; have h2 := F.2.f 2) | skip)))
    all_goals
      go_wp2_with fail
      go_meet
      first
      | exact ⟨_, d, c8, rfl, Br.size, (mbox _ #[.int .i64 (R : Int), .int .i64 (c : Int), .slice (some ⟨d, 0, none⟩) n c8] 24 _ rfl).2, ho.alloc _, (by omega), Br.alloc Br.size _⟩
      | exact ⟨_, d, c8, rfl, F.1, ms_put3' F.2, ho.other (heap_put3' (by simp only [World.size_alloc, World.drew] at hd1; omega)), (by simp only [World.size_alloc, World.drew] at hd1; omega), Br.put3 F.1 _ _ _⟩
  obtain ⟨g, d, c8, rfl, hg, L, ho, hgd, bw⟩ := hcut
  obtain ⟨w4, rfl⟩ : ∃ wo, wo = wc := ⟨_, rfl⟩
  obtain ⟨d', c8', ed, hd1, hd2⟩ := ho.form HNL.out.1
  simp only [Value.slice.injEq, Option.some.injEq, Addr.mk.injEq, and_true] at ed
  obtain ⟨rfl, -, -⟩ := ed
  replace K1 := K1.behind bw
  replace K3 := K3.behind bw
  have HB4 := Lib.hid (below_both HBW.out bw)
  have HO4 := Lib.hid (OwnK.mono ho (show w.heap.size ≤ w1.heap.size by have := HW1.out; omega))
  have HSZ : Hid (w.heap.size + 3 ≤ w1.heap.size ∧ w1.heap.size ≤ d ∧ d < w4.heap.size ∧ g ≠ d ∧ w1.heap.size ≤ g) := Lib.hid ⟨HW1.out, hd1, hd2, hgd, hg⟩
  have c0 := K1.cell (i := 0) rfl
  clear K2 HK HC2 HCL Br ho bw hd1 hd2 hgd hg
  go_wp2
  go_loopw [31] (fun i wx => ∃ k : Nat, k ≤ R ∧ i = .int .i64 k ∧ OwnK .u64 32 w.heap.size wx (.slice (some ⟨d, 0, none⟩) n c8) (zn (XL k)) ∧ But1 d w4 wx ∧ Below w.heap.size w wx ∧ Hid (finB (XL k) (R * c) = true)) (fun i _ => R - (intOf i).toNat)
  case atStart => exact ⟨0, Nat.zero_le _, rfl, by rw [← HX0.out.1]; exact HO4.out, But1.refl _ _, HB4.out, Lib.hid HX0.out.2⟩
  case round =>
    obtain ⟨k, hk, rfl, ho, hU, hBb, HF⟩ := hrel
    clear c0
    have L2 := hU.ms L (by have := HSZ.out; omega)
    have L1 := hU.ms K1 (by have := HSZ.out; omega)
    have L3 := hU.ms K3 (by have := HSZ.out; omega)
    have c0 := L1.cell (i := 0) rfl
    have c1 := L1.cell (i := 1) rfl
    have c2 := L1.cell (i := 2) rfl
    have d0 := L2.cell (i := 0) rfl
    have d1 := L2.cell (i := 1) rfl
    have d2 := L2.cell (i := 2) rfl
    by_cases hlt : k < R
    · have h := HSV.out k hlt wr d c8 ho hBb HF.out
      have q : decide ((k : Int) < (R : Int)) = true := decide_eq_true (by omega)
      obtain ⟨e1, e2, e3⟩ := HIX.out k hlt
      obtain ⟨I, hI⟩ : ∃ I, I = rowI true R k := ⟨_, rfl⟩
      obtain ⟨F, hF⟩ : ∃ F, F = fstI true R k := ⟨_, rfl⟩
      obtain ⟨R1, hR1⟩ : ∃ q, q = R - 1 := ⟨_, rfl⟩
      rw [← hR1] at e1 e2
      rw [← hI] at e2 e3 h
      rw [← hF] at e3 h
      clear hI hF hR1
      have HH := Lib.hid (And.intro hU hBb)
      clear ho hU hBb
      go_wp2_with fail
      refine h.mono ?_
      rintro e w6 ⟨⟨rfl, ho6, hf6⟩ | ⟨rfl, hf6⟩, hu6, hb6⟩
      · have HF6 := Lib.hid hf6
        clear hf6 h
        go_wp2
        exact ⟨⟨k + 1, by omega, by simp, ho6, HH.out.1.trans2 hu6, HH.out.2.trans hb6, HF6⟩, by simp [intOf]; omega⟩
      · have HT := Lib.hid (HE.out.2 hf6)
        have L6 := hu6.ms L3 (by have := HSZ.out; omega)
        have g0 := L6.cell (i := 0) rfl
        have g1 := L6.cell (i := 1) rfl
        have g2 := L6.cell (i := 2) rfl
        have f0 := L6.f 0
        have f1 := L6.f 1
        have f2 := L6.f 2
        have HBX := Lib.hid (HH.out.2.trans hb6)
        clear hf6 h L6 hu6 hb6 L1 L2 L3 c0 c1 c2 d0 d1 d2
        go_wp2
        exact bodyPost_ret (v := .tuple #[.agg #[.int .i64 0, .int .i64 0, .slice none 0 0], .int .i64 13]) (by simp [results, Try.results25, go_sem, g0, g1, g2]) rfl
          ⟨0, 0, none, 0, 0, by rw [HT.out.1], by rw [HT.out.2]; exact new_nil _ hpos (HBX.out.put3 (by omega) _ _ _), fun h => absurd (HT.out.1.symm.trans h) (by decide), fun _ => ⟨rfl, rfl⟩, HBX.out.put3 (by omega) _ _ _⟩
    · obtain rfl : k = R := by omega
      have q : decide ((k : Int) < (k : Int)) = false := decide_eq_false (by omega)
      have HT := Lib.hid (HE.out.1 HF.out)
      have HOO := Lib.hid ho
      have HBX := Lib.hid hBb
      have g0 := L3.cell (i := 0) rfl
      have g1 := L3.cell (i := 1) rfl
      have g2 := L3.cell (i := 2) rfl
      have f0 := L3.f 0
      have f1 := L3.f 1
      have f2 := L3.f 2
      have hsw : 0 < wr.heap.size := by have := hBb.size; omega
      clear ho hU hBb hlt L1 L2 L3 c0 c1 c2
      go_wp2
      exact bodyPost_ret (v := .tuple #[.agg #[.int .i64 (k : Int), .int .i64 (c : Int), .slice (some ⟨d, 0, none⟩) n c8], .int .i64 0]) (by simp [results, Try.results25, go_sem, g0, g1, g2]) rfl
        ⟨k, c, _, _, _, by rw [HT.out.1], by rw [HT.out.2]; exact new_zn.2 ((HOO.out.other (heap_put3' (by have := HSZ.out; omega))).new (by simpa only [World.size_setCell] using hsw)), fun _ => ⟨rfl, rfl⟩, fun h => absurd HT.out.1 h, HBX.out.put3 (by omega) _ _ _⟩
end Go.Proofs.Ytdonecohnemomaa

/- vernierlaw22: alive, less, solved. -/
namespace Go.Proofs.Ytdonecohnemomaa
open Go.RowKit Go.Shelf
/-- how Lower or Upper ends -/
def trE (up : Bool) (R C : Int) (m : Nat) (xs : List Nat) (R2 C2 : Int) (n : Nat) (ys : List Nat) (unit : Bool) : Int := tellV (solX up R.toNat C2.toNat xs unit ys R.toNat) (readyE (finM R C m xs) (finM R2 C2 n ys) R C R2 unit xs)
def trX (up : Bool) (R C2 : Int) (xs : List Nat) (unit : Bool) (ys : List Nat) : List Nat := solX up R.toNat C2.toNat xs unit ys R.toNat
theorem ready_ok {f1 f2 R C R2 : Int} {unit : Bool} {xs : List Nat} (h : readyE f1 f2 R C R2 unit xs = 0) : f1 = 0 ∧ f2 = 0 ∧ R = C ∧ R2 = R ∧ (!unit && diagZ R.toNat xs R.toNat) = false := by
  unfold readyE at h
  by_cases h1 : f1 = 0
  · rw [if_neg (fun k => k h1)] at h
    by_cases h2 : f2 = 0
    · rw [if_neg (fun k => k h2)] at h
      by_cases h3 : R ≠ C ∨ R2 ≠ R
      · rw [if_pos h3] at h; exact absurd h (by decide)
      · rw [if_neg h3] at h
        by_cases h4 : (!unit && diagZ R.toNat xs R.toNat) = true
        · rw [if_pos h4] at h; exact absurd h (by decide)
        · exact ⟨h1, h2, by omega, by omega, by simpa using h4⟩
    · rw [if_pos h2] at h; exact absurd h h2
  · rw [if_pos h1] at h; exact absurd h h1
theorem tri_lower {R C R2 C2 : Int} {unit : Bool} {a b : Option Addr} {m n cap cap2 : Nat} {xs ys : List Nat} {w : World} (hA : Arg w (.slice a m cap) xs) (hB : Arg w (.slice b n cap2) ys) (hx : Low 18446744073709551616 xs) (hy : Low 18446744073709551616 ys) :
    Calls Try.prog 24 #[.agg #[.int .i64 R, .int .i64 C, .slice a m cap], .bool unit, .agg #[.int .i64 R2, .int .i64 C2, .slice b n cap2]] w fun e W' => ∃ R3 C3 b3 n3 c3, e = .returned (.tuple #[.agg #[.int .i64 R3, .int .i64 C3, .slice b3 n3 c3], .int .i64 (trE false R C m xs R2 C2 n ys unit)]) ∧ New w.heap.size W' (.slice b3 n3 c3) (if trE false R C m xs R2 C2 n ys unit = 0 then trX false R C2 xs unit ys else []) ∧ (trE false R C m xs R2 C2 n ys unit = 0 → R3 = R2 ∧ C3 = C2) ∧ (trE false R C m xs R2 C2 n ys unit ≠ 0 → R3 = 0 ∧ C3 = 0) ∧ Below w.heap.size w W' := by
  have hpos : 0 < w.heap.size := by obtain ⟨S, hS, _⟩ := hA; omega
  by_cases hr : readyE (finM R C m xs) (finM R2 C2 n ys) R C R2 unit xs = 0
  · obtain ⟨h1, h2, h3, h4, -⟩ := ready_ok hr
    subst h3
    subst h4
    obtain ⟨p1, p2, -, -, -⟩ := mayM_iff.1 (finM_ok h1).1
    obtain ⟨-, -, q3, q4, -⟩ := mayM_iff.1 (finM_ok h2).1
    obtain ⟨r, rfl⟩ := Int.eq_ofNat_of_zero_le (show 0 ≤ R2 by omega)
    obtain ⟨c, rfl⟩ := Int.eq_ofNat_of_zero_le (show 0 ≤ C2 by omega)
    unfold trE trX
    rw [hr]
    exact tri_lower_yes hA hB hx hy hr h1 h2
  · have he : trE false R C m xs R2 C2 n ys unit = readyE (finM R C m xs) (finM R2 C2 n ys) R C R2 unit xs := tellV_no hr
    rw [he]
    refine (tri_lower_no hA hB hx hy hr).mono ?_
    rintro e W' ⟨rfl, hb⟩
    exact ⟨0, 0, none, 0, 0, rfl, by rw [if_neg hr]; exact new_nil _ hpos hb, fun h => absurd h hr, fun _ => ⟨rfl, rfl⟩, hb⟩
theorem tri_upper {R C R2 C2 : Int} {unit : Bool} {a b : Option Addr} {m n cap cap2 : Nat} {xs ys : List Nat} {w : World} (hA : Arg w (.slice a m cap) xs) (hB : Arg w (.slice b n cap2) ys) (hx : Low 18446744073709551616 xs) (hy : Low 18446744073709551616 ys) :
    Calls Try.prog 25 #[.agg #[.int .i64 R, .int .i64 C, .slice a m cap], .bool unit, .agg #[.int .i64 R2, .int .i64 C2, .slice b n cap2]] w fun e W' => ∃ R3 C3 b3 n3 c3, e = .returned (.tuple #[.agg #[.int .i64 R3, .int .i64 C3, .slice b3 n3 c3], .int .i64 (trE true R C m xs R2 C2 n ys unit)]) ∧ New w.heap.size W' (.slice b3 n3 c3) (if trE true R C m xs R2 C2 n ys unit = 0 then trX true R C2 xs unit ys else []) ∧ (trE true R C m xs R2 C2 n ys unit = 0 → R3 = R2 ∧ C3 = C2) ∧ (trE true R C m xs R2 C2 n ys unit ≠ 0 → R3 = 0 ∧ C3 = 0) ∧ Below w.heap.size w W' := by
  have hpos : 0 < w.heap.size := by obtain ⟨S, hS, _⟩ := hA; omega
  by_cases hr : readyE (finM R C m xs) (finM R2 C2 n ys) R C R2 unit xs = 0
  · obtain ⟨h1, h2, h3, h4, -⟩ := ready_ok hr
    subst h3
    subst h4
    obtain ⟨p1, p2, -, -, -⟩ := mayM_iff.1 (finM_ok h1).1
    obtain ⟨-, -, q3, q4, -⟩ := mayM_iff.1 (finM_ok h2).1
    obtain ⟨r, rfl⟩ := Int.eq_ofNat_of_zero_le (show 0 ≤ R2 by omega)
    obtain ⟨c, rfl⟩ := Int.eq_ofNat_of_zero_le (show 0 ≤ C2 by omega)
    unfold trE trX
    rw [hr]
    exact tri_upper_yes hA hB hx hy hr h1 h2
  · have he : trE true R C m xs R2 C2 n ys unit = readyE (finM R C m xs) (finM R2 C2 n ys) R C R2 unit xs := tellV_no hr
    rw [he]
    refine (tri_upper_no hA hB hx hy hr).mono ?_
    rintro e W' ⟨rfl, hb⟩
    exact ⟨0, 0, none, 0, 0, rfl, by rw [if_neg hr]; exact new_nil _ hpos hb, fun h => absurd h hr, fun _ => ⟨rfl, rfl⟩, hb⟩
theorem l22_less {s x y : Nat} {w : World} (hs : (s : Int) ≤ 18446744073709551615) (hx : (x : Int) ≤ 18446744073709551615) (hy : (y : Int) ≤ 18446744073709551615) :
    Calls Try.prog 72 #[.int .u64 (s : Int), .int .u64 (x : Int), .int .u64 (y : Int)] w fun e W' => e = .returned (.int .u64 (minusU s (timesU x y) : Int)) ∧ Below w.heap.size w W' := by
  have h := fmul_mul (mode := 0) (w := w) hx hy
  have h2 := fun W => fadd_sub (mode := 0) (w := W) hs (show ((timesU x y : Nat) : Int) ≤ 18446744073709551615 by have := timesU_lt x y; omega)
  unfold minusU
  unfold timesU at h2 ⊢
  generalize rmul x y 0 = p at *
  obtain ⟨p1, p2⟩ := p
  dsimp only at h h2 ⊢
  generalize rsubt s p1 0 = q at *
  obtain ⟨q1, q2⟩ := q
  dsimp only at h2 ⊢
  clear hs hx hy
  go_enter Try.func72, Try.ntmps72
  go_wp2_with fail
  refine h.mono ?_
  rintro e w1 ⟨rfl, b1⟩
  clear h
  go_wp2_with fail
  refine (h2 _).mono ?_
  rintro e w2 ⟨rfl, b2⟩
  clear h2
  go_wp2
  go_ret
  exact ⟨rfl, below_both b1 b2⟩
theorem l22_quot : quotU 4611686018427387904 4611686018427387904 = 4607182418800017408 := by decide
theorem l22_sol : solX false 1 1 [4611686018427387904] false [4611686018427387904] 1 = [4607182418800017408] := by
  show splice [4611686018427387904] (rowI false 1 0 * 1) (rowV 1 (solN 1 1 [4611686018427387904] [4611686018427387904] (rowI false 1 0) (fstI false 1 0) 0 false)) = _
  show splice [4611686018427387904] 0 [quotU 4611686018427387904 4611686018427387904] = _
  rw [l22_quot]
  rfl
theorem own_emp (W : World) : OwnK .u64 32 W.heap.size (W.alloc (.cells #[] 32)) (.slice (some ⟨W.heap.size, 0, none⟩) 0 0) [] := World.ownsRow_lit W #[] 0 (Nat.le_refl _) (by simp [maxLen]) rfl
/-- row i, its first j numbers solved -/
def qL (R c : Nat) (ts X : List Nat) (i first n : Nat) (unit : Bool) (k : Nat) : List Nat := splice X (i * c) (rowV c fun j => if j < k then solN R c ts X i first n unit j else lesM R c ts X i first 0 j)
section
variable {R c : Nat} {ts X : List Nat} {i first n : Nat} {unit : Bool}
theorem qL_zero (hl : i * c + c ≤ X.length) : qL R c ts X i first n unit 0 = X := by
  have h : (rowV c fun j => if j < 0 then solN R c ts X i first n unit j else lesM R c ts X i first 0 j) = rowV c (lesM R c ts X i first 0) := ext_lim (by rw [rowV_length, rowV_length]) fun k hk => by
    rw [rowV_length] at hk
    rw [rowV_lim _ hk, rowV_lim _ hk, if_neg (by omega)]
  unfold qL
  rw [h, splice_zero hl]
theorem qL_all : qL R c ts X i first n unit c = splice X (i * c) (rowV c (solN R c ts X i first n unit)) := by
  unfold qL
  congr 1
  refine ext_lim (by rw [rowV_length, rowV_length]) fun k hk => ?_
  rw [rowV_length] at hk
  rw [rowV_lim _ hk, rowV_lim _ hk, if_pos hk]
theorem qL_length (hl : i * c + c ≤ X.length) (k : Nat) : (qL R c ts X i first n unit k).length = X.length := by
  unfold qL
  exact length_splice _ _ _ (by rw [rowV_length]; exact hl)
theorem qL_at (hl : i * c + c ≤ X.length) {k : Nat} (hk : k < c) : lim (qL R c ts X i first n unit k) (i * c + k) = lesM R c ts X i first 0 k := by
  unfold qL
  rw [splice_row hl hk, if_neg (by omega)]
theorem qL_else (hl : i * c + c ≤ X.length) {a q k : Nat} (hq : q < c) (h : i ≠ a) : lim (qL R c ts X i first n unit k) (a * c + q) = lim X (a * c + q) := splice_else hl hq h
theorem qL_set (hl : i * c + c ≤ X.length) {k : Nat} (hk : k < c) : (qL R c ts X i first n unit k).set (i * c + k) (solN R c ts X i first n unit k) = qL R c ts X i first n unit (k + 1) := splice_set (f := solN R c ts X i first n unit) (g := lesM R c ts X i first 0) hl hk
end
end Go.Proofs.Ytdonecohnemomaa
