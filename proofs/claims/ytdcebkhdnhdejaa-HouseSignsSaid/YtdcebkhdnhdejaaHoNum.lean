/- house: mirrors, plain numbers. -/
import Derived.Test.YtdcebkhdnhdejaaNoNum
import Derived.Test.YtdcebkhdnhdejaaVeSpec
import Derived.Test.YtdcebkhdnhdejaaFdSpec
import Derived.Test.YtdcebkhdnhdejaaFqSpec
import Derived.Test.YtdcebkhdnhdejaaMaNum
import Derived.Test.YtdcebkhdnhdejaaOw
import Derived.Deep.RegionHeld3
import Derived.Deep.QuietTactic
import Derived.BigQuiet
namespace Go.Proofs.Ytdcebkhdnhdejaa
theorem rnd_pos {num den : Nat} (e : Int) (hn : 0 < num) (hd : 0 < den) : Pos (rnd false num den e 0).1 := by
  have hf := rexp_fits hn hd e
  unfold Pos rnd
  rw [fin_eq hf]
  generalize (if rup false 0 (qat num den e (rexp num den e)) (decide (rst num den (e - rexp num den e) ≠ 0)) (cmpN (2 * rst num den (e - rexp num den e)) (lower den (e - rexp num den e))) then qat num den e (rexp num den e) + 1 else qat num den e (rexp num den e)) = q1
  have hz : sgn false = 0 := rfl
  have hb : (rbig false 0).1 = 9218868437227405312 := by decide
  split
  · rw [hb]; exact Nat.le_refl _
  · rename_i h
    rw [hz]
    dsimp only
    omega
theorem times_self {x : Nat} (h : cls x ≤ 1) : Pos (timesU x x) := by
  unfold timesU rmul
  rw [if_neg (by omega), if_neg (by omega), if_neg (by omega), bne_self_eq_false]
  by_cases h0 : cls x = 0
  · rw [if_pos (.inl h0)]; unfold Pos; decide
  · rw [if_neg (by omega)]
    have hs : 0 < sig x := Nat.pos_of_ne_zero fun e => h0 ((cls_zero_iff h).2 e)
    exact rnd_pos _ (Nat.mul_pos hs hs) (by decide)
theorem pos_zero : Pos 0 := Nat.zero_le _
theorem dot_self {xs : List Nat} {n : Nat} (h : ∀ j, j < n → cls (lim xs j) ≤ 1) : Pos (dotV xs xs n) := by
  induction n with
  | zero => exact pos_zero
  | succ n ih => exact (plus_pos (ih fun j hj => h j (by omega)) (times_self (h n (by omega)))).2.2
def quotU (a b : Nat) : Nat := (rdiv6 a b 0).1
def rootU (a : Nat) : Nat := (rsqrt a 0).1
theorem root_pos {d : Nat} (h : Pos d) : Pos (rootU d) := by
  obtain ⟨a1, a2, a3, a4, a5, a6⟩ := pos_facts h
  unfold rootU rsqrt
  rw [if_neg a4]
  by_cases h0 : cls d = 0
  · rw [if_pos h0]; exact h
  · rw [if_neg h0, if_neg (by rw [a2]; decide)]
    by_cases h2 : cls d = 2
    · rw [if_pos h2]; exact h
    · rw [if_neg h2]
      have hc : cls d ≤ 1 := by have := cls_le d; omega
      have hs : 0 < sig d := Nat.pos_of_ne_zero fun e => h0 ((cls_zero_iff hc).2 e)
      unfold rootN
      refine rnd_pos _ ?_ (by decide)
      generalize hM : sig d * 2 ^ sqt (sig d) (xpo d) = M
      have hM0 : 0 < M := by rw [← hM]; exact Nat.mul_pos hs (Nat.two_pow_pos _)
      by_cases hr : rt M = 0
      · rw [hr, if_pos (by omega)]; omega
      · omega
theorem pos_cls0 {s : Nat} (h : Pos s) : cls s = 0 ↔ s = 0 := by
  obtain ⟨a1, a2, a3, a4, a5, a6⟩ := pos_facts h
  constructor
  · intro h0
    have hc := cls_mag s
    rw [a3] at hc
    unfold Pos at h
    by_cases hz : s = 0
    · exact hz
    · rw [if_neg (by omega)] at hc
      split at hc
      · omega
      · omega
  · intro h0; rw [h0]; decide
theorem quotU_lt (a b : Nat) : quotU a b ≤ 18446744073709551615 := by
  unfold quotU rdiv6
  split
  · decide
  · split
    · decide
    · split
      · unfold infB sgn; split <;> decide
      · split
        · unfold infB sgn; split <;> decide
        · split
          · exact sgn_lt _
          · rename_i h1 h2 h3 h4 h5
            have ca : cls a = 1 := by have := cls_le a; omega
            have cb : cls b = 1 := by have := cls_le b; omega
            have sa : 0 < sig a := Nat.pos_of_ne_zero fun e => by have := (cls_zero_iff (by omega : cls a ≤ 1)).2 e; omega
            have sb : 0 < sig b := Nat.pos_of_ne_zero fun e => by have := (cls_zero_iff (by omega : cls b ≤ 1)).2 e; omega
            exact rnd_lt _ sa sb _ _
theorem tellV_z {want : List Nat} : tellV want 0 = if finB want want.length then 0 else 13 := by unfold tellV; rw [if_neg (by decide)]
/-- are all words behind the first one zeros? the first k of them -/
def stillB (xs : List Nat) : Nat → Bool
  | 0 => true
  | k + 1 => stillB xs k && decide (cls (lim xs (k + 1)) = 0)
theorem stillB_iff {xs : List Nat} {k : Nat} : stillB xs k = true ↔ ∀ j, 1 ≤ j → j ≤ k → cls (lim xs j) = 0 := by
  induction k with
  | zero => exact ⟨fun _ j _ _ => by omega, fun _ => rfl⟩
  | succ k ih =>
    show (stillB xs k && decide (cls (lim xs (k + 1)) = 0)) = true ↔ _
    rw [Bool.and_eq_true, ih, decide_eq_true_iff]
    constructor
    · intro h j h1 h2
      by_cases hc : j = k + 1
      · rw [hc]; exact h.2
      · exact h.1 j h1 (by omega)
    · intro h
      exact ⟨fun j h1 h2 => h j h1 (by omega), h (k + 1) (by omega) (Nat.le_refl _)⟩
/-- the mirror that takes xs to b: the gap, tau, v, and whether one is not finite -/
def mirG (xs : List Nat) (b : Nat) : Nat := minusU (lim xs 0) b
def mirT (xs : List Nat) (b : Nat) : Nat := quotU (minusU b (lim xs 0)) b
def mirV (xs : List Nat) (b : Nat) : List Nat := rowV xs.length fun i => if i = 0 then 4607182418800017408 else quotU (lim xs i) (mirG xs b)
def mirE (xs : List Nat) (b : Nat) : Int := if finB (mirV xs b) (mirV xs b).length = true ∧ cls (mirT xs b) ≤ 1 ∧ cls (mirG xs b) ≤ 1 then 0 else 13
/-- the number that is left: its size is the root of the squares, its sign is not that of the first one -/
def hoB (xs : List Nat) : Nat := rootU (dotV xs xs xs.length) + if lim xs 0 < 9223372036854775808 then 9223372036854775808 else 0
/-- v where nothing is to be done -/
def hoU (xs : List Nat) : List Nat := rowV xs.length fun i => if i = 0 then 4607182418800017408 else 0
/-- Make's error -/
def hoE (xs : List Nat) : Int :=
  if chkV xs ≠ 0 then chkV xs else if xs.length = 0 then 11 else if stillB xs (xs.length - 1) = true then 0
  else if dotE xs xs ≠ 0 then dotE xs xs else if rootU (dotV xs xs xs.length) = 0 then 7 else mirE xs (hoB xs)
def hoIs (xs : List Nat) : Bool := decide (hoE xs = 0)
/-- what Make tells: v, tau, beta -/
def hoRV (xs : List Nat) : List Nat := if hoE xs ≠ 0 then [] else if stillB xs (xs.length - 1) = true then hoU xs else mirV xs (hoB xs)
def hoRT (xs : List Nat) : Nat := if hoE xs ≠ 0 then 0 else if stillB xs (xs.length - 1) = true then 0 else mirT xs (hoB xs)
def hoRB (xs : List Nat) : Nat := if hoE xs ≠ 0 then 0 else if stillB xs (xs.length - 1) = true then lim xs 0 else hoB xs
theorem hoU_low (xs : List Nat) : Low 18446744073709551616 (hoU xs) := rowV_low fun k _ => by split <;> decide
theorem mirV_low (xs : List Nat) (b : Nat) : Low 18446744073709551616 (mirV xs b) := rowV_low fun k _ => by
  split
  · decide
  · exact quotU_lt _ _
/-- a row, mirrored -/
def apV (vs : List Nat) (tau : Nat) (xs : List Nat) : List Nat := rowV xs.length fun i => minusU (lim xs i) (timesU (timesU tau (dotV vs xs vs.length)) (lim vs i))
def apE (vs : List Nat) (tau : Nat) (xs : List Nat) : Int :=
  if dotE vs xs ≠ 0 ∧ dotE vs xs ≠ 13 then dotE vs xs else if 2 ≤ cls tau then 12 else if dotE vs xs ≠ 0 then 13 else tellV (apV vs tau xs) 0
theorem dotE_ways (xs ys : List Nat) : (dotE xs ys = 0 ∧ dotR xs ys = dotV xs ys xs.length ∧ xs.length = ys.length ∧ chkV xs = 0 ∧ chkV ys = 0) ∨ dotE xs ys = 11 ∨ dotE xs ys = 12 ∨ dotE xs ys = 13 := by
  by_cases h : dotE xs ys = 0
  · left
    have hb : bothV xs ys 0 = 0 := by
      unfold dotE at h
      by_cases hb : bothV xs ys 0 = 0
      · exact hb
      · rw [if_pos hb] at h; exact absurd h hb
    obtain ⟨k1, k2, -, k3⟩ := bothV_ok hb
    exact ⟨h, by unfold dotR; rw [if_pos h], k3, k1, k2⟩
  · right
    unfold dotE bothV at h ⊢
    rcases chkV_ways xs with h1 | h1 | h1 <;> rcases chkV_ways ys with h2 | h2 | h2 <;> rw [h1, h2] at h ⊢ <;> simp at h ⊢
    by_cases h3 : xs.length = ys.length
    · simp [h3] at h ⊢; omega
    · simp [h3]
end Go.Proofs.Ytdcebkhdnhdejaa

/- house: Make, Apply and what they call. -/
namespace Go.Proofs.Ytdcebkhdnhdejaa
open Go.RowKit Go.Shelf
theorem results_tmp4 {fn : Func} {t u v x : Tmp} (h : fn.results = #[.tmp t, .tmp u, .tmp v, .tmp x]) (tmps : Array Value) (P : Program) (w : World) :
    (results fn tmps).run P w = .ok (.tuple #[tmps.getD t undef, tmps.getD u undef, tmps.getD v undef, tmps.getD x undef]) w := by
  simp [results, h]
theorem house_nf {x : Nat} {w : World} (hx : (x : Int) ≤ 18446744073709551615) : Calls Try.prog 101 #[.int .u64 (x : Int)] w fun e W' => e = .returned (.bool (decide (2 ≤ cls x))) ∧ w = W' := by
  have hc := pclass1 (a := x) (w := w) hx
  by_cases h : 2 ≤ cls x
  · have hd : decide ((1 : Int) < (cls x : Int)) = true := decide_eq_true (by omega)
    rw [decide_eq_true h]
    clear h
    generalize cls x = c at *
    go_enter Try.func101, Try.ntmps101
    go_wp2_with fail
    refine hc.mono ?_
    rintro e w1 ⟨rfl, rfl⟩
    clear hc
    go_wp2
    go_ret
    exact ⟨rfl, rfl⟩
  · have hd : decide ((1 : Int) < (cls x : Int)) = false := decide_eq_false (by omega)
    rw [decide_eq_false h]
    clear h
    generalize cls x = c at *
    go_enter Try.func101, Try.ntmps101
    go_wp2_with fail
    refine hc.mono ?_
    rintro e w1 ⟨rfl, rfl⟩
    clear hc
    go_wp2
    go_ret
    exact ⟨rfl, rfl⟩
theorem house_nz {x : Nat} {w : World} (hx : (x : Int) ≤ 18446744073709551615) : Calls Try.prog 97 #[.int .u64 (x : Int)] w fun e W' => e = .returned (.bool (decide (cls x ≠ 0))) ∧ w = W' := by
  have hc := pclass1 (a := x) (w := w) hx
  by_cases h : cls x = 0
  · have hd : ((cls x : Int) != 0) = false := by simp [h]
    rw [decide_eq_false (by simp [h])]
    clear h
    generalize cls x = c at *
    go_enter Try.func97, Try.ntmps97
    go_wp2_with fail
    refine hc.mono ?_
    rintro e w1 ⟨rfl, rfl⟩
    clear hc
    go_wp2
    go_ret
    exact ⟨rfl, rfl⟩
  · have hd : ((cls x : Int) != 0) = true := bne_iff_ne.2 (by omega)
    rw [decide_eq_true h]
    clear h
    generalize cls x = c at *
    go_enter Try.func97, Try.ntmps97
    go_wp2_with fail
    refine hc.mono ?_
    rintro e w1 ⟨rfl, rfl⟩
    clear hc
    go_wp2
    go_ret
    exact ⟨rfl, rfl⟩
theorem house_sub {a b : Nat} {w : World} (ha : (a : Int) ≤ 18446744073709551615) (hb : (b : Int) ≤ 18446744073709551615) :
    Calls Try.prog 105 #[.int .u64 (a : Int), .int .u64 (b : Int)] w fun e W' => e = .returned (.int .u64 (minusU a b : Int)) ∧ Below w.heap.size w W' := by
  have h := fadd_sub (mode := 0) (w := w) ha hb
  unfold minusU
  generalize rsubt a b 0 = p at *
  obtain ⟨x, y⟩ := p
  dsimp only at h ⊢
  clear ha hb
  go_enter Try.func105, Try.ntmps105
  go_wp2_with fail
  refine h.mono ?_
  rintro e w1 ⟨rfl, b1⟩
  clear h
  go_wp2
  go_ret
  exact ⟨rfl, b1⟩
theorem house_mul {a b : Nat} {w : World} (ha : (a : Int) ≤ 18446744073709551615) (hb : (b : Int) ≤ 18446744073709551615) :
    Calls Try.prog 102 #[.int .u64 (a : Int), .int .u64 (b : Int)] w fun e W' => e = .returned (.int .u64 (timesU a b : Int)) ∧ Below w.heap.size w W' := by
  have h := fmul_mul (mode := 0) (w := w) ha hb
  unfold timesU
  generalize rmul a b 0 = p at *
  obtain ⟨x, y⟩ := p
  dsimp only at h ⊢
  clear ha hb
  go_enter Try.func102, Try.ntmps102
  go_wp2_with fail
  refine h.mono ?_
  rintro e w1 ⟨rfl, b1⟩
  clear h
  go_wp2
  go_ret
  exact ⟨rfl, b1⟩
theorem house_div {a b : Nat} {w : World} (ha : (a : Int) ≤ 18446744073709551615) (hb : (b : Int) ≤ 18446744073709551615) :
    Calls Try.prog 130 #[.int .u64 (a : Int), .int .u64 (b : Int)] w fun e W' => e = .returned (.int .u64 (quotU a b : Int)) ∧ Below w.heap.size w W' := by
  have h := fdiv_div (mode := 0) (w := w) ha hb
  unfold quotU
  generalize rdiv6 a b 0 = p at *
  obtain ⟨x, y⟩ := p
  dsimp only at h ⊢
  clear ha hb
  go_enter Try.func130, Try.ntmps130
  go_wp2_with fail
  refine h.mono ?_
  rintro e w1 ⟨rfl, b1⟩
  clear h
  go_wp2
  go_ret
  exact ⟨rfl, b1⟩
theorem house_contains {v : Value} {xs : List Nat} {w : World} (hA : Arg w v xs) (hl : Low 18446744073709551616 xs) (hn : xs.length ≤ 17592186044416) :
    Calls Try.prog 67 #[v, .func (.func 101) #[] #[]] w fun e W' => e = .returned (.bool (!finB xs xs.length)) ∧ Below w.heap.size w W' := by
  have h := containsFunc_u64 (k := 101) (fs := #[]) (fun x => decide (2 ≤ cls x)) hA (by omega) (enters_of Try.func101 (by kernel_rfl) rfl) (fun x W hx _ => (house_nf (by have := hl x hx; omega)).mono fun e W' ⟨h1, h2⟩ => ⟨h1, h2 ▸ Below.refl _ _⟩)
  rwa [finB_any, Bool.not_not]
theorem house_anynz {v : Value} {xs : List Nat} {w : World} (hA : Arg w v xs) (hl : Low 18446744073709551616 xs) (hn : xs.length ≤ 17592186044416) :
    Calls Try.prog 67 #[v, .func (.func 97) #[] #[]] w fun e W' => e = .returned (.bool (xs.any fun x => decide (cls x ≠ 0))) ∧ Below w.heap.size w W' :=
  containsFunc_u64 (k := 97) (fs := #[]) (fun x => decide (cls x ≠ 0)) hA (by omega) (enters_of Try.func97 (by kernel_rfl) rfl) (fun x W hx _ => (house_nz (by have := hl x hx; omega)).mono fun e W' ⟨h1, h2⟩ => ⟨h1, h2 ▸ Below.refl _ _⟩)
set_option maxRecDepth 100000 in
set_option maxHeartbeats 8000000 in
/-- each, with a closure that tells the word of each place -/
theorem house_each {k : Nat} {fs : Array Value} (g : Nat → Nat) {v : Value} {xs : List Nat} {w : World} (hA : Arg w v xs) (hx : Low 18446744073709551616 xs) (hn : xs.length ≤ 17592186044415) (he : Enters k) (hg : ∀ i, i < xs.length → g i ≤ 18446744073709551615)
    (hf : ∀ (i : Nat) (W : World), i < xs.length → Below w.heap.size w W → Calls Try.prog k (#[.int .i64 (i : Int), .int .u64 (lim xs i : Int)] ++ fs) W fun e W' => e = .returned (.int .u64 (g i : Int)) ∧ Below W.heap.size W W') :
    Calls Try.prog 103 #[v, .func (.func k) #[] fs] w fun e W' => ∃ a n c, e = .returned (.tuple #[.slice a n c, .int .i64 (tellV (rowV xs.length g) 0)]) ∧ New w.heap.size W' (.slice a n c) (if tellV (rowV xs.length g) 0 = 0 then rowV xs.length g else []) ∧ Below w.heap.size w W' := by
  have hpos : 0 < w.heap.size := by obtain ⟨S, hS, _⟩ := hA; omega
  have HLW : Hid (Low 18446744073709551616 (rowV xs.length g)) := Lib.hid (rowV_low hg)
  have HXL := Lib.hid (fun k => lim_lt hx (by decide : 0 < 18446744073709551616) k)
  obtain ⟨S, sa, scap, hS, rfl, _, HX⟩ := hA.opened
  have HF := Lib.hid hf
  have HEN := Lib.hid he
  clear hf he hg hx hA
  generalize xs.length = m at *
  have HRS := Lib.hid (fun j => rowV_succ j g)
  have HRL := Lib.hid (fun j => rowV_length j g)
  have HR0 : Hid (rowV 0 g = []) := Lib.hid rfl
  have HRM : Hid (rowV m g = rowV m g) := Lib.hid rfl
  obtain ⟨ws, hws⟩ : ∃ ws, ws = rowV m g := ⟨_, rfl⟩
  rw [← hws] at HLW
  rw [← hws]
  have HWS := Lib.hid hws
  have HWL : Hid (ws.length = m) := Lib.hid (by rw [hws, rowV_length])
  have HT := Lib.hid (tellV_z (want := ws))
  obtain ⟨E, hE⟩ : ∃ E, E = tellV ws 0 := ⟨_, rfl⟩
  rw [← hE] at HT ⊢
  obtain ⟨Z, hZ⟩ : ∃ Z, Z = if E = 0 then ws else [] := ⟨_, rfl⟩
  rw [← hZ]
  have HZ := Lib.hid hZ
  clear hws hE hZ HRM
  have hm1 := make0_u64 m (by omega) w
  have HOWN := Lib.hid (own0_u64 m (by omega) w)
  go_enter Try.func103, Try.ntmps103
  go_wp2
  clear hm1
  have hown := HOWN.out
  have hB := (Below.refl w.heap.size w).alloc (Nat.le_refl _) (.cells (madeCells #[.int .u64 0] m) 32)
  generalize w.alloc (.cells (madeCells #[.int .u64 0] m) 32) = W0 at *
  clear HOWN
  go_loopw [6, 14] (fun q i wr => ∃ j : Nat, j ≤ m ∧ i = .int .i64 j ∧ OwnK .u64 32 w.heap.size wr q (zn (rowV j g)) ∧ Below w.heap.size w wr) (fun _ i _ => m - (intOf i).toNat)
  case atStart => exact ⟨0, Nat.zero_le _, rfl, by rw [HR0.out]; exact hown, hB⟩
  case round =>
    obtain ⟨j, hj, rfl, hQ, hBr⟩ := hrel
    by_cases hlt : j < m
    · obtain ⟨xo, rfl, kx⟩ := HX.out wr hBr j hlt
      have hc := HF.out j wr hlt hBr
      have hen := HEN.out (#[.int .i64 (j : Int), .int .u64 (lim xs j : Int)] ++ fs) wr
      have HS := Lib.hid (HRS.out j)
      have h1 := HXL.out j
      have hlen : (zn (rowV j g)).length + 1 ≤ 17592186044416 := by rw [zn_length, HRL.out]; omega
      generalize lim xs j = x at *
      generalize g j = y at *
      go_wp2_with fail
      refine hc.mono ?_
      rintro e w2 ⟨rfl, b2⟩
      clear hc hen
      replace hBr := below_both hBr b2
      have hQ2 := hQ.below b2
      have hsz := hBr.size
      go_wp2_with (at_builtin; refine app_u64 rfl _ _ rfl rfl rfl (cell_new1 _ _ _) (hQ2.alloc _) hlen (by rw [World.size_alloc]; omega) ?_; intro v' w3 hQ3 hb3)
      have hqq := hQ3
      rw [← zn_snoc, ← HS.out] at hqq
      have hbb := (hBr.alloc hBr.size _).trans hb3
      exact ⟨⟨j + 1, by omega, by simp, hqq, hbb⟩, by simp [intOf]; omega⟩
    · obtain rfl : j = m := by omega
      clear hlt
      rw [← HWS.out] at hQ
      have hp := Nat.lt_of_lt_of_le hpos hBr.size
      have hN := new_zn.2 (hQ.new hp)
      have hcn := house_contains hN.arg HLW.out (by rw [HWL.out]; omega)
      obtain ⟨oa, oc, hof⟩ := hQ.len
      rw [zn_length, HWL.out] at hof
      subst hof
      have HN := Lib.hid hN
      cases hfb : finB ws ws.length
      · rw [hfb] at hcn
        have HE1 : Hid (E = 13) := Lib.hid (by rw [HT.out, hfb]; rfl)
        have HR1 : Hid (Z = []) := Lib.hid (by rw [HZ.out, HE1.out]; rfl)
        clear hfb hQ hN
        go_wp2_with fail
        refine hcn.mono ?_
        rintro e w3 ⟨rfl, b3⟩
        have HBB := Lib.hid (below_both hBr b3)
        clear hcn
        go_wp2
        go_ret2
        exact ⟨none, 0, 0, by rw [HE1.out]; rfl, by rw [HR1.out]; exact new_nil (b := 0) (Nat.lt_of_lt_of_le hpos HBB.out.size), HBB.out⟩
      · rw [hfb] at hcn
        have HE1 : Hid (E = 0) := Lib.hid (by rw [HT.out, hfb]; rfl)
        have HR1 : Hid (Z = ws) := Lib.hid (by rw [HZ.out, HE1.out]; rfl)
        clear hfb hQ hN
        go_wp2_with fail
        refine hcn.mono ?_
        rintro e w3 ⟨rfl, b3⟩
        have HBB := Lib.hid (below_both hBr b3)
        have HN3 := Lib.hid (HN.out.behind b3)
        clear hcn
        go_wp2
        go_ret2
        exact ⟨_, _, _, by rw [HE1.out]; rfl, by rw [HR1.out]; exact HN3.out, HBB.out⟩
theorem house_quot {g G i x : Nat} {W : World} (hc : W.cell? ⟨g, 0, none⟩ = some (.int .u64 (G : Int))) (hx : (x : Int) ≤ 18446744073709551615) (hG : (G : Int) ≤ 18446744073709551615) :
    Calls Try.prog 131 #[.int .i64 (i : Int), .int .u64 (x : Int), .pointer (some ⟨g, 0, none⟩)] W fun e W' => e = .returned (.int .u64 ((if i = 0 then 4607182418800017408 else quotU x G : Nat) : Int)) ∧ Below W.heap.size W W' := by
  have hd := house_div (w := W) hx hG
  by_cases h : i = 0
  · subst h
    rw [if_pos rfl]
    go_enter Try.func131, Try.ntmps131
    go_wp2
    go_ret
    exact ⟨rfl, Below.refl _ _⟩
  · rw [if_neg h]
    have q : ((i : Int) == 0) = false := beq_eq_false_iff_ne.2 (by omega)
    generalize quotU x G = z at *
    clear h
    go_enter Try.func131, Try.ntmps131
    go_wp2_with fail
    refine hd.mono ?_
    rintro e w1 ⟨rfl, b1⟩
    go_wp2
    go_ret
    exact ⟨rfl, b1⟩
set_option maxRecDepth 100000 in
set_option maxHeartbeats 8000000 in
theorem house_mirror {v : Value} {xs : List Nat} {b : Nat} {w : World} (hA : Arg w v xs) (hx : Low 18446744073709551616 xs) (h0 : 0 < xs.length) (hn : xs.length ≤ 64) (hb : (b : Int) ≤ 18446744073709551615) :
    Calls Try.prog 99 #[v, .int .u64 (b : Int)] w fun e W' => ∃ a n c, e = .returned (.tuple #[.slice a n c, .int .u64 ((if mirE xs b = 0 then mirT xs b else 0 : Nat) : Int), .int .u64 ((if mirE xs b = 0 then b else 0 : Nat) : Int), .int .i64 (mirE xs b)]) ∧ New w.heap.size W' (.slice a n c) (if mirE xs b = 0 then mirV xs b else []) ∧ Below w.heap.size w W' := by
  have hpos : 0 < w.heap.size := by obtain ⟨S, hS, _⟩ := hA; omega
  have hx0 : (lim xs 0 : Int) ≤ 18446744073709551615 := by have := lim_lt hx (by decide : 0 < 18446744073709551616) 0; omega
  have hS1 := fun w => house_sub (a := b) (b := lim xs 0) (w := w) hb hx0
  have hm1 : (minusU b (lim xs 0) : Int) ≤ 18446744073709551615 := by have := minusU_lt (a := b) (b := lim xs 0) (by omega) (by omega); omega
  have hG1 : (minusU (lim xs 0) b : Int) ≤ 18446744073709551615 := by have := minusU_lt (a := lim xs 0) (b := b) (by omega) (by omega); omega
  have hD1 := fun w => house_div (a := minusU b (lim xs 0)) (b := b) (w := w) hm1 hb
  have hS2 := fun w => house_sub (a := lim xs 0) (b := b) (w := w) hx0 hb
  have hT1 : (mirT xs b : Int) ≤ 18446744073709551615 := by have := quotU_lt (minusU b (lim xs 0)) b; unfold mirT; omega
  have hN1 := fun w => house_nf (x := mirT xs b) (w := w) hT1
  have hN2 := fun w => house_nf (x := mirG xs b) (w := w) hG1
  have HEA := Lib.hid (fun (W : World) (g : Nat) (h : Below w.heap.size w W) (hc : Ms W g #[.int .u64 (mirG xs b : Int)] 32) => house_each (k := 131) (fs := #[.pointer (some ⟨g, 0, none⟩)]) (fun i => if i = 0 then 4607182418800017408 else quotU (lim xs i) (mirG xs b)) (hA.behind h) hx (by omega) (enters_of Try.func131 (by kernel_rfl) rfl) (fun i hi => by
      split
      · decide
      · exact quotU_lt _ _) (fun i W2 hi h2 => house_quot ((hc.behind h2).cell (i := 0) rfl) (by have := lim_lt hx (by decide : 0 < 18446744073709551616) i; omega) hG1))
  obtain ⟨E, hE⟩ : ∃ E, E = mirE xs b := ⟨_, rfl⟩
  obtain ⟨RT, hRT⟩ : ∃ z, z = if E = 0 then mirT xs b else 0 := ⟨_, rfl⟩
  obtain ⟨RB, hRB⟩ : ∃ z, z = if E = 0 then b else 0 := ⟨_, rfl⟩
  obtain ⟨RZ, hRZ⟩ : ∃ z, z = if E = 0 then mirV xs b else [] := ⟨_, rfl⟩
  rw [← hE, ← hRT, ← hRB, ← hRZ]
  have HY : Hid (finB (mirV xs b) (mirV xs b).length = true → cls (mirT xs b) ≤ 1 → cls (mirG xs b) ≤ 1 → E = 0 ∧ RT = mirT xs b ∧ RB = b ∧ RZ = mirV xs b) := Lib.hid (fun h1 h2 h3 => by
    have : E = 0 := by rw [hE]; unfold mirE; rw [if_pos ⟨h1, h2, h3⟩]
    exact ⟨this, by rw [hRT, if_pos this], by rw [hRB, if_pos this], by rw [hRZ, if_pos this]⟩)
  have HNO : Hid (¬ (finB (mirV xs b) (mirV xs b).length = true ∧ cls (mirT xs b) ≤ 1 ∧ cls (mirG xs b) ≤ 1) → E = 13 ∧ RT = 0 ∧ RB = 0 ∧ RZ = []) := Lib.hid (fun h => by
    have : E = 13 := by rw [hE]; unfold mirE; rw [if_neg h]
    have h2 : ¬ E = 0 := by rw [this]; decide
    exact ⟨this, by rw [hRT, if_neg h2], by rw [hRB, if_neg h2], by rw [hRZ, if_neg h2]⟩)
  clear hE hRT hRB hRZ
  obtain ⟨S, sa, scap, hS, rfl, _, HX⟩ := hA.opened
  obtain ⟨off, rfl, kx⟩ := HX.out w (Below.refl _ _) 0 h0
  rw [Nat.add_zero] at kx
  have HKX : Hid (∀ W, Below w.heap.size w W → W.cell? ⟨S, off, none⟩ = some (.int .u64 (lim xs 0 : Int))) := Lib.hid (fun W h => (h.cell (p := ⟨S, off, none⟩) hS).trans kx)
  have HV : Hid (rowV xs.length (fun i => if i = 0 then 4607182418800017408 else quotU (lim xs i) (mirG xs b)) = mirV xs b) := Lib.hid rfl
  rw [show rowV xs.length (fun i => if i = 0 then 4607182418800017408 else quotU (lim xs i) (mirG xs b)) = mirV xs b from rfl] at HEA
  have HVY := Lib.hid (tellV_z (want := mirV xs b))
  obtain ⟨EV, hEV⟩ : ∃ z, z = tellV (mirV xs b) 0 := ⟨_, rfl⟩
  rw [← hEV] at HEA HVY
  clear hEV HV hA hx
  rw [show minusU (lim xs 0) b = mirG xs b from rfl] at hS2
  rw [show quotU (minusU b (lim xs 0)) b = mirT xs b from rfl] at hD1
  generalize mirV xs b = V at *
  generalize mirT xs b = T at *
  generalize mirG xs b = G at *
  generalize minusU b (lim xs 0) = d at *
  generalize lim xs 0 = x0 at *
  generalize xs.length = m at *
  have h1 : (0 : Int) < (m : Int) := by omega
  have HD1 := Lib.hid hD1
  have HS2 := Lib.hid hS2
  have HN1 := Lib.hid hN1
  have HN2 := Lib.hid hN2
  clear hD1 hS2 hN1 hN2
  go_enter Try.func99, Try.ntmps99
  go_wp2_with fail
  refine (hS1 _).mono ?_
  rintro e w1 ⟨rfl, b1⟩
  clear hS1
  have kx := HKX.out _ b1
  go_wp2_with fail
  refine (HD1.out _).mono ?_
  rintro e w2 ⟨rfl, b2⟩
  have B2 := below_both b1 b2
  have kx := HKX.out _ B2
  clear b1 b2 HD1
  go_wp2_with fail
  refine (HS2.out _).mono ?_
  rintro e w3 ⟨rfl, b3⟩
  have B3 := below_both B2 b3
  obtain ⟨b4, K⟩ := mbox w3 #[.int .u64 (G : Int)] 32 _ rfl
  have B4 := below_both B3 b4
  have hEA := HEA.out _ _ B4 K
  clear HS2 B2 b3 B3 kx HEA
  go_wp2_with fail
  refine hEA.mono ?_
  rintro e w5 ⟨a5, n5, c5, rfl, hN5, k5⟩
  have B5 := below_both B4 k5
  have hN5' := Lib.hid (hN5.lower (n' := w.heap.size) B4.size)
  have K5 := K.behind k5
  have g0 := K5.cell (i := 0) rfl
  clear hEA b4 K B4 k5 hN5 K5
  generalize hw4 : w3.alloc (.cells #[.int .u64 (G : Int)] 32) = w4 at *
  have HB5 := Lib.hid B5
  cases hf : finB V V.length
  · obtain ⟨e1, e2, e3, e4⟩ := HNO.out (by rw [hf]; simp)
    have hEV : EV = 13 := by rw [HVY.out, hf]; rfl
    clear hf
    subst e1 e2 e3 e4 hEV
    go_wp2
    (try simp only [Exit.inBlock, Exit.then])
    refine bodyPost_ret (results_tmp4 rfl _ _ _) rfl ?_
    exact ⟨none, 0, 0, rfl, new_nil (b := 0) (Nat.lt_of_lt_of_le hpos HB5.out.size), HB5.out⟩
  · have hEV : EV = 0 := by rw [HVY.out, hf]; rfl
    subst hEV
    by_cases hT : cls T ≤ 1
    · by_cases hG : cls G ≤ 1
      · obtain ⟨e1, e2, e3, e4⟩ := HY.out hf hT hG
        subst e1 e2 e3 e4
        have n1 := HN1.out
        have n2 := HN2.out
        rw [show decide (2 ≤ cls RT) = false from decide_eq_false (by omega)] at n1
        rw [show decide (2 ≤ cls G) = false from decide_eq_false (by omega)] at n2
        clear hf hT hG
        go_wp2_with fail
        refine (n1 _).mono ?_
        rintro e w6 ⟨rfl, rfl⟩
        go_wp2_with fail
        refine (n2 _).mono ?_
        rintro e w6 ⟨rfl, rfl⟩
        go_wp2
        (try simp only [Exit.inBlock, Exit.then])
        refine bodyPost_ret (results_tmp4 rfl _ _ _) rfl ?_
        exact ⟨_, _, _, rfl, hN5'.out, HB5.out⟩
      · obtain ⟨e1, e2, e3, e4⟩ := HNO.out (fun h => hG h.2.2)
        subst e1 e2 e3 e4
        have n1 := HN1.out
        have n2 := HN2.out
        rw [show decide (2 ≤ cls T) = false from decide_eq_false (by omega)] at n1
        rw [show decide (2 ≤ cls G) = true from decide_eq_true (by omega)] at n2
        clear hf hT hG
        go_wp2_with fail
        refine (n1 _).mono ?_
        rintro e w6 ⟨rfl, rfl⟩
        go_wp2_with fail
        refine (n2 _).mono ?_
        rintro e w6 ⟨rfl, rfl⟩
        go_wp2
        (try simp only [Exit.inBlock, Exit.then])
        refine bodyPost_ret (results_tmp4 rfl _ _ _) rfl ?_
        exact ⟨none, 0, 0, rfl, new_nil (b := 0) (Nat.lt_of_lt_of_le hpos HB5.out.size), HB5.out⟩
    · obtain ⟨e1, e2, e3, e4⟩ := HNO.out (fun h => hT h.2.1)
      subst e1 e2 e3 e4
      have n1 := HN1.out
      rw [show decide (2 ≤ cls T) = true from decide_eq_true (by omega)] at n1
      clear hf hT
      go_wp2_with fail
      refine (n1 _).mono ?_
      rintro e w6 ⟨rfl, rfl⟩
      go_wp2
      (try simp only [Exit.inBlock, Exit.then])
      refine bodyPost_ret (results_tmp4 rfl _ _ _) rfl ?_
      exact ⟨none, 0, 0, rfl, new_nil (b := 0) (Nat.lt_of_lt_of_le hpos HB5.out.size), HB5.out⟩
end Go.Proofs.Ytdcebkhdnhdejaa

/- house: Apply, Make. -/
namespace Go.Proofs.Ytdcebkhdnhdejaa
open Go.RowKit Go.Shelf
theorem house_back {g h W0 i x m cap S off : Nat} {vs : List Nat} {W : World} (hc : W.cell? ⟨g, 0, none⟩ = some (.int .u64 (W0 : Int))) (hv : W.cell? ⟨h, 0, none⟩ = some (.slice (some ⟨S, off, none⟩) m cap)) (hi : W.cell? ⟨S, off + i, none⟩ = some (.int .u64 (lim vs i : Int))) (him : i < m)
    (hg : g < W.heap.size) (hh : h < W.heap.size) (hS : S < W.heap.size) (hx : (x : Int) ≤ 18446744073709551615) (hw : (W0 : Int) ≤ 18446744073709551615) (hl : (lim vs i : Int) ≤ 18446744073709551615) :
    Calls Try.prog 104 #[.int .i64 (i : Int), .int .u64 (x : Int), .pointer (some ⟨g, 0, none⟩), .pointer (some ⟨h, 0, none⟩)] W fun e W' => e = .returned (.int .u64 (minusU x (timesU W0 (lim vs i)) : Int)) ∧ Below W.heap.size W W' := by
  have HM := Lib.hid (fun w => house_mul (a := W0) (b := lim vs i) (w := w) hw hl)
  have HS := Lib.hid (fun w => house_sub (a := x) (b := timesU W0 (lim vs i)) (w := w) hx (by have := timesU_lt W0 (lim vs i); omega))
  generalize minusU x (timesU W0 (lim vs i)) = z at *
  generalize timesU W0 (lim vs i) = p at *
  generalize lim vs i = y at *
  have HK : Hid (∀ W', Below W.heap.size W W' → W'.cell? ⟨g, 0, none⟩ = some (.int .u64 (W0 : Int)) ∧ W'.cell? ⟨h, 0, none⟩ = some (.slice (some ⟨S, off, none⟩) m cap) ∧ W'.cell? ⟨S, off + i, none⟩ = some (.int .u64 (y : Int))) := Lib.hid (fun W' hb =>
    ⟨(hb.cell (p := ⟨g, 0, none⟩) hg).trans hc, (hb.cell (p := ⟨h, 0, none⟩) hh).trans hv, (hb.cell (p := ⟨S, off + i, none⟩) hS).trans hi⟩)
  have Br : Below W.heap.size W W := Below.refl _ _
  have him' : (i : Int) < (m : Int) := by omega
  clear hc hv hi hg hh hS hw hl
  go_enter Try.func104, Try.ntmps104
  go_wp2_with fail
  go_region_held3 (fun W' => W'.cell? ⟨g, 0, none⟩ = some (.int .u64 (W0 : Int)) ∧ W'.cell? ⟨h, 0, none⟩ = some (.slice (some ⟨S, off, none⟩) m cap) ∧ W'.cell? ⟨S, off + i, none⟩ = some (.int .u64 (y : Int)))
    (first | with_reducible exact HK.out _ Br | with_reducible exact HK.out _ Br.drew | (refine ⟨?_, ?_, ?_⟩ <;> go_keep))
    (first
      | (go_at_call 102; (with_reducible refine (HM.out _).mono ?_); rintro e v4 ⟨rfl, bz⟩; (first | replace Br := below_both Br bz | replace Br := below_both Br.drew bz); clear bz)
      | (go_at_call 105; (with_reducible refine (HS.out _).mono ?_); rintro e v5 ⟨rfl, bz⟩; (first | replace Br := below_both Br bz | replace Br := below_both Br.drew bz); clear bz))
  have HB := Lib.hid Br
  go_wp2
  go_ret
  exact ⟨rfl, HB.out⟩
set_option maxRecDepth 100000 in
set_option maxHeartbeats 8000000 in
theorem house_apply {va vb : Option Addr} {m n capv capx tau : Nat} {vs xs : List Nat} {w : World} (hV : Arg w (.slice va m capv) vs) (hX : Arg w (.slice vb n capx) xs) (hv : Low 18446744073709551616 vs) (hx : Low 18446744073709551616 xs) (hvn : vs.length ≤ 17592186044415) (hxn : xs.length ≤ 17592186044415) (ht : (tau : Int) ≤ 18446744073709551615) :
    Calls Try.prog 52 #[.slice va m capv, .int .u64 (tau : Int), .slice vb n capx] w fun e W' => ∃ a n c, e = .returned (.tuple #[.slice a n c, .int .i64 (apE vs tau xs)]) ∧ New w.heap.size W' (.slice a n c) (if apE vs tau xs = 0 then apV vs tau xs else []) ∧ Below w.heap.size w W' := by
  have hpos : 0 < w.heap.size := by obtain ⟨S, hS, _⟩ := hX; omega
  have hmv : m = vs.length := by
    obtain ⟨a', c', e⟩ := hV.slice
    simp only [Value.slice.injEq] at e
    omega
  obtain ⟨B, K⟩ := mbox w #[.slice va m capv] 22 _ rfl
  have hD := vec_dot (hV.behind B) (hX.behind B) hv hx (by omega) (by omega)
  have hN := fun w => house_nf (x := tau) (w := w) ht
  obtain ⟨E, hE⟩ : ∃ z, z = apE vs tau xs := ⟨_, rfl⟩
  obtain ⟨Z, hZ⟩ : ∃ z, z = if E = 0 then apV vs tau xs else [] := ⟨_, rfl⟩
  rw [← hE, ← hZ]
  have k0 := K.cell (i := 0) rfl
  have HNO : Hid (E ≠ 0 → Z = []) := Lib.hid (fun h => by rw [hZ, if_neg h])
  rcases dotE_ways vs xs with ⟨h1, h2, h3, h4, h5⟩ | h1 | h1 | h1
  · rw [h1, h2] at hD
    have hd1 : (dotV vs xs vs.length : Int) ≤ 18446744073709551615 := by have := dotV_lt vs xs vs.length; omega
    by_cases hc : 2 ≤ cls tau
    · have hE2 : E = 12 := by rw [hE]; unfold apE; rw [if_neg (by simp [h1]), if_pos hc]
      have hZ2 := HNO.out (by rw [hE2]; decide)
      rw [show decide (2 ≤ cls tau) = true from decide_eq_true hc] at hN
      generalize dotV vs xs vs.length = d at *
      subst hE2 hZ2
      clear hE hZ hc h1 h2 h3 h4 h5 hV hX hv hx hvn hxn hmv
      go_enter Try.func52, Try.ntmps52
      go_wp2_with fail
      generalize w.alloc (.cells #[.slice va m capv] 22) = W0 at *
      refine hD.mono ?_
      rintro e w2 ⟨rfl, b2⟩
      have HB := Lib.hid (below_both B b2)
      clear hD
      go_wp2_with fail
      refine (hN _).mono ?_
      rintro e w3 ⟨rfl, rfl⟩
      go_wp2
      go_ret2
      exact ⟨none, 0, 0, rfl, new_nil (b := 0) (Nat.lt_of_lt_of_le hpos HB.out.size), HB.out⟩
    · have hE2 : E = tellV (apV vs tau xs) 0 := by rw [hE]; unfold apE; rw [if_neg (by simp [h1]), if_neg hc, if_neg (by simp [h1])]
      rw [show decide (2 ≤ cls tau) = false from decide_eq_false hc] at hN
      have hM := fun w => house_mul (a := tau) (b := dotV vs xs vs.length) (w := w) ht hd1
      have hw1 : (timesU tau (dotV vs xs vs.length) : Int) ≤ 18446744073709551615 := by have := timesU_lt tau (dotV vs xs vs.length); omega
      obtain ⟨S, va', cv', hS, e1, _, HVO⟩ := hV.opened
      simp only [Value.slice.injEq] at e1
      obtain ⟨rfl, -, rfl⟩ := e1
      have HEA := Lib.hid (fun (W : World) (g h : Nat) (hb : Below w.heap.size w W) (hc : Ms W g #[.int .u64 (timesU tau (dotV vs xs vs.length) : Int)] 32) (hd : Ms W h #[.slice va m capv] 22) => house_each (k := 104) (fs := #[.pointer (some ⟨g, 0, none⟩), .pointer (some ⟨h, 0, none⟩)]) (fun i => minusU (lim xs i) (timesU (timesU tau (dotV vs xs vs.length)) (lim vs i))) (hX.behind hb) hx (by omega) (enters_of Try.func104 (by kernel_rfl) rfl) (fun i hi => by
          have := minusU_lt (a := lim xs i) (b := timesU (timesU tau (dotV vs xs vs.length)) (lim vs i)) (by have := lim_lt hx (by decide : 0 < 18446744073709551616) i; omega) (timesU_lt _ _)
          omega) (fun i W2 hi h2 => by
          obtain ⟨off, rfl, kx⟩ := HVO.out W2 (below_both hb h2) i (by omega)
          exact house_back ((hc.behind h2).cell (i := 0) rfl) ((hd.behind h2).cell (i := 0) rfl) kx (by omega) (hc.behind h2).lt (hd.behind h2).lt (Nat.lt_of_lt_of_le hS (below_both hb h2).size) (by have := lim_lt hx (by decide : 0 < 18446744073709551616) i; omega) hw1 (by have := lim_lt hv (by decide : 0 < 18446744073709551616) i; omega)))
      rw [show rowV xs.length (fun i => minusU (lim xs i) (timesU (timesU tau (dotV vs xs vs.length)) (lim vs i))) = apV vs tau xs from rfl, ← hE2, ← hZ] at HEA
      generalize timesU tau (dotV vs xs vs.length) = ww at *
      generalize dotV vs xs vs.length = d at *
      have HKK := Lib.hid K
      clear hE hZ hc h1 h2 h3 h4 h5 hV hX hv hx hvn hxn hmv hE2
      go_enter Try.func52, Try.ntmps52
      go_wp2_with fail
      generalize w.alloc (.cells #[.slice va m capv] 22) = W0 at *
      refine hD.mono ?_
      rintro e w2 ⟨rfl, b2⟩
      have B2 := below_both B b2
      have K2 := K.behind b2
      clear hD
      go_wp2_with fail
      refine (hN _).mono ?_
      rintro e w3 ⟨rfl, rfl⟩
      go_wp2_with fail
      refine (hM _).mono ?_
      rintro e w4 ⟨rfl, b4⟩
      obtain ⟨b5, L⟩ := mbox w4 #[.int .u64 (ww : Int)] 32 _ rfl
      have B5 := below_both B2 (below_both b4 b5)
      have K5 := K2.behind (below_both b4 b5)
      have hEA := HEA.out _ _ _ B5 L K5
      clear HEA hM hN K2 b2 b4 b5 L K5
      go_wp2_with fail
      refine hEA.mono ?_
      rintro e w6 ⟨a6, n6, c6, rfl, hN6, k6⟩
      have HB := Lib.hid (below_both B5 k6)
      have HNN := Lib.hid (hN6.lower (n' := w.heap.size) B5.size)
      clear hEA hN6 k6 B5
      go_wp2
      go_ret2
      exact ⟨_, _, _, rfl, HNN.out, HB.out⟩
  · rw [h1] at hD
    have hE2 : E = 11 := by rw [hE]; unfold apE; rw [if_pos (by simp [h1]), h1]
    have hZ2 := HNO.out (by rw [hE2]; decide)
    generalize dotR vs xs = d at *
    subst hE2 hZ2
    clear hE hZ h1 hV hX hv hx hvn hxn hmv
    go_enter Try.func52, Try.ntmps52
    go_wp2_with fail
    generalize w.alloc (.cells #[.slice va m capv] 22) = W0 at *
    refine hD.mono ?_
    rintro e w2 ⟨rfl, b2⟩
    have HB := Lib.hid (below_both B b2)
    clear hD
    go_wp2
    go_ret2
    exact ⟨none, 0, 0, rfl, new_nil (b := 0) (Nat.lt_of_lt_of_le hpos HB.out.size), HB.out⟩
  · rw [h1] at hD
    have hE2 : E = 12 := by rw [hE]; unfold apE; rw [if_pos (by simp [h1]), h1]
    have hZ2 := HNO.out (by rw [hE2]; decide)
    generalize dotR vs xs = d at *
    subst hE2 hZ2
    clear hE hZ h1 hV hX hv hx hvn hxn hmv
    go_enter Try.func52, Try.ntmps52
    go_wp2_with fail
    generalize w.alloc (.cells #[.slice va m capv] 22) = W0 at *
    refine hD.mono ?_
    rintro e w2 ⟨rfl, b2⟩
    have HB := Lib.hid (below_both B b2)
    clear hD
    go_wp2
    go_ret2
    exact ⟨none, 0, 0, rfl, new_nil (b := 0) (Nat.lt_of_lt_of_le hpos HB.out.size), HB.out⟩
  · rw [h1] at hD
    generalize hdd : dotR vs xs = d at *
    have hE2 : E = if 2 ≤ cls tau then 12 else 13 := by rw [hE]; unfold apE; rw [if_neg (by simp [h1]), if_pos (show dotE vs xs ≠ 0 by rw [h1]; decide)]
    have hZ2 := HNO.out (by rw [hE2]; split <;> decide)
    by_cases hc : 2 ≤ cls tau
    · rw [if_pos hc] at hE2
      rw [show decide (2 ≤ cls tau) = true from decide_eq_true hc] at hN
      subst hE2 hZ2
      clear hE hZ hc h1 hV hX hv hx hvn hxn hmv hdd
      go_enter Try.func52, Try.ntmps52
      go_wp2_with fail
      generalize w.alloc (.cells #[.slice va m capv] 22) = W0 at *
      refine hD.mono ?_
      rintro e w2 ⟨rfl, b2⟩
      have HB := Lib.hid (below_both B b2)
      clear hD
      go_wp2_with fail
      refine (hN _).mono ?_
      rintro e w3 ⟨rfl, rfl⟩
      go_wp2
      go_ret2
      exact ⟨none, 0, 0, rfl, new_nil (b := 0) (Nat.lt_of_lt_of_le hpos HB.out.size), HB.out⟩
    · rw [if_neg hc] at hE2
      rw [show decide (2 ≤ cls tau) = false from decide_eq_false hc] at hN
      subst hE2 hZ2
      clear hE hZ hc h1 hV hX hv hx hvn hxn hmv hdd
      go_enter Try.func52, Try.ntmps52
      go_wp2_with fail
      generalize w.alloc (.cells #[.slice va m capv] 22) = W0 at *
      refine hD.mono ?_
      rintro e w2 ⟨rfl, b2⟩
      have HB := Lib.hid (below_both B b2)
      clear hD
      go_wp2_with fail
      refine (hN _).mono ?_
      rintro e w3 ⟨rfl, rfl⟩
      go_wp2
      go_ret2
      exact ⟨none, 0, 0, rfl, new_nil (b := 0) (Nat.lt_of_lt_of_le hpos HB.out.size), HB.out⟩
theorem ho_ways (xs : List Nat) :
    (chkV xs ≠ 0 ∧ hoE xs = chkV xs ∧ hoRT xs = 0 ∧ hoRB xs = 0 ∧ hoRV xs = []) ∨
    (chkV xs = 0 ∧ xs.length = 0 ∧ hoE xs = 11 ∧ hoRT xs = 0 ∧ hoRB xs = 0 ∧ hoRV xs = []) ∨
    (chkV xs = 0 ∧ 0 < xs.length ∧ stillB xs (xs.length - 1) = true ∧ hoE xs = 0 ∧ hoRT xs = 0 ∧ hoRB xs = lim xs 0 ∧ hoRV xs = hoU xs) ∨
    (chkV xs = 0 ∧ 0 < xs.length ∧ stillB xs (xs.length - 1) = false ∧ dotE xs xs = 13 ∧ hoE xs = 13 ∧ hoRT xs = 0 ∧ hoRB xs = 0 ∧ hoRV xs = []) ∨
    (chkV xs = 0 ∧ 0 < xs.length ∧ stillB xs (xs.length - 1) = false ∧ dotE xs xs = 0 ∧ dotR xs xs = dotV xs xs xs.length ∧ rootU (dotV xs xs xs.length) = 0 ∧ hoE xs = 7 ∧ hoRT xs = 0 ∧ hoRB xs = 0 ∧ hoRV xs = []) ∨
    (chkV xs = 0 ∧ 0 < xs.length ∧ stillB xs (xs.length - 1) = false ∧ dotE xs xs = 0 ∧ dotR xs xs = dotV xs xs xs.length ∧ rootU (dotV xs xs xs.length) ≠ 0 ∧ hoE xs = mirE xs (hoB xs) ∧ hoRT xs = (if mirE xs (hoB xs) = 0 then mirT xs (hoB xs) else 0) ∧ hoRB xs = (if mirE xs (hoB xs) = 0 then hoB xs else 0) ∧ hoRV xs = (if mirE xs (hoB xs) = 0 then mirV xs (hoB xs) else [])) := by
  have key : ∀ z : Int, hoE xs = z → z ≠ 0 → hoRT xs = 0 ∧ hoRB xs = 0 ∧ hoRV xs = [] := fun z h h2 => by
    have : hoE xs ≠ 0 := by rw [h]; exact h2
    exact ⟨by unfold hoRT; rw [if_pos this], by unfold hoRB; rw [if_pos this], by unfold hoRV; rw [if_pos this]⟩
  by_cases h1 : chkV xs = 0
  · right
    by_cases h2 : xs.length = 0
    · left
      have e : hoE xs = 11 := by unfold hoE; rw [if_neg (by simp [h1]), if_pos h2]
      exact ⟨h1, h2, e, key 11 e (by decide)⟩
    · right
      cases h3 : stillB xs (xs.length - 1)
      · right
        rcases dotE_ways xs xs with ⟨d1, d2, _, _, _⟩ | d1 | d1 | d1
        · right
          by_cases h4 : rootU (dotV xs xs xs.length) = 0
          · left
            have e : hoE xs = 7 := by unfold hoE; rw [if_neg (by simp [h1]), if_neg h2, h3, if_neg (by simp), if_neg (by simp [d1]), if_pos h4]
            exact ⟨h1, by omega, rfl, d1, d2, h4, e, key 7 e (by decide)⟩
          · right
            have e : hoE xs = mirE xs (hoB xs) := by unfold hoE; rw [if_neg (by simp [h1]), if_neg h2, h3, if_neg (by simp), if_neg (by simp [d1]), if_neg h4]
            refine ⟨h1, by omega, rfl, d1, d2, h4, e, ?_, ?_, ?_⟩
            · unfold hoRT; rw [e, h3]; by_cases z : mirE xs (hoB xs) = 0 <;> simp [z]
            · unfold hoRB; rw [e, h3]; by_cases z : mirE xs (hoB xs) = 0 <;> simp [z]
            · unfold hoRV; rw [e, h3]; by_cases z : mirE xs (hoB xs) = 0 <;> simp [z]
        · exfalso
          obtain ⟨l1, -⟩ := chkV_ok.1 h1
          unfold dotE bothV at d1
          rw [h1] at d1
          simp at d1
          split at d1 <;> exact absurd d1 (by decide)
        · exfalso
          unfold dotE bothV at d1
          rw [h1] at d1
          simp at d1
          split at d1 <;> exact absurd d1 (by decide)
        · left
          have e : hoE xs = 13 := by unfold hoE; rw [if_neg (by simp [h1]), if_neg h2, h3, if_neg (by simp), if_pos (by simp [d1]), d1]
          exact ⟨h1, by omega, rfl, d1, e, key 13 e (by decide)⟩
      · left
        have e : hoE xs = 0 := by unfold hoE; rw [if_neg (by simp [h1]), if_neg h2, if_pos h3]
        exact ⟨h1, by omega, rfl, e, by unfold hoRT; rw [e, h3]; rfl, by unfold hoRB; rw [e, h3]; rfl, by unfold hoRV; rw [e, h3]; rfl⟩
  · left
    have e : hoE xs = chkV xs := by unfold hoE; rw [if_pos h1]
    exact ⟨h1, e, key _ e h1⟩
theorem still_any {xs : List Nat} {n : Nat} : ((partW xs 1 n).any fun x => decide (cls x ≠ 0)) = !stillB xs n := by
  cases h : stillB xs n
  · rw [Bool.not_false, List.any_eq_true]
    have h2 : ¬ ∀ j, 1 ≤ j → j ≤ n → cls (lim xs j) = 0 := fun hh => by rw [stillB_iff.2 hh] at h; cases h
    refine Classical.byContradiction fun hc => h2 fun j h3 h4 => Classical.byContradiction fun h5 => hc ⟨lim xs j, ?_, decide_eq_true h5⟩
    have := partW_at (xs := xs) (o := 1) (n := n) (j := j - 1) (by omega)
    rw [show 1 + (j - 1) = j by omega] at this
    rw [← this]
    unfold lim
    rw [List.getElem?_eq_getElem (by rw [partW_length]; omega)]
    exact List.getElem_mem _
  · rw [Bool.not_true, List.any_eq_false]
    intro x hx
    obtain ⟨j, hj, rfl⟩ := List.getElem_of_mem hx
    rw [partW_length] at hj
    have h1 := partW_at (xs := xs) (o := 1) (n := n) (j := j) hj
    have h2 := stillB_iff.1 h (1 + j) (by omega) (by omega)
    rw [← h1] at h2
    unfold lim at h2
    rw [List.getElem?_eq_getElem (by rw [partW_length]; exact hj)] at h2
    simpa using h2
theorem partW_low' {xs : List Nat} {o k : Nat} (h : Low 18446744073709551616 xs) : Low 18446744073709551616 (partW xs o k) := by
  intro y hy
  unfold partW at hy
  obtain ⟨j, _, rfl⟩ := List.mem_map.1 hy
  exact lim_lt h (by decide) _
theorem not_sign {x : Nat} (h : x < 18446744073709551616) : (18446744073709551615 ^^^ x) &&& 9223372036854775808 = if x < 9223372036854775808 then 9223372036854775808 else 0 := by
  apply Nat.eq_of_testBit_eq
  intro i
  rw [Nat.testBit_and, Nat.testBit_xor]
  have e1 : (9223372036854775808 : Nat).testBit i = decide (63 = i) := by
    rw [show (9223372036854775808 : Nat) = 2 ^ 63 by decide]; exact Nat.testBit_two_pow
  by_cases hi : i = 63
  · subst hi
    have e2 : (18446744073709551615 : Nat).testBit 63 = true := by decide
    have e3 : x.testBit 63 = decide (x / 9223372036854775808 % 2 = 1) := Nat.testBit_eq_decide_div_mod_eq
    rw [e1, e2, e3]
    by_cases h2 : x < 9223372036854775808
    · rw [if_pos h2, Nat.div_eq_of_lt h2, e1]; rfl
    · rw [if_neg h2, show x / 9223372036854775808 = 1 by omega]; rfl
  · rw [e1, decide_eq_false (by omega), Bool.and_false]
    split
    · rw [e1, decide_eq_false (by omega)]
    · rw [Nat.zero_testBit]
theorem beta_bits {r x : Nat} (hr : Pos r) (h : x < 18446744073709551616) : bits .or .u64 (r : Int) (bits .and .u64 (bits .xor .u64 IntKind.u64.max (x : Int)) 9223372036854775808) = ((r + if x < 9223372036854775808 then 9223372036854775808 else 0 : Nat) : Int) := by
  unfold Pos at hr
  have h1 : bits .xor .u64 IntKind.u64.max (x : Int) = ((18446744073709551615 ^^^ x : Nat) : Int) := bits_xor_u64_nat 18446744073709551615 x (by decide) h
  have h2 : 18446744073709551615 ^^^ x < 18446744073709551616 := Nat.xor_lt_two_pow (n := 64) (by decide) h
  have h3 : bits .and .u64 ((18446744073709551615 ^^^ x : Nat) : Int) 9223372036854775808 = (((18446744073709551615 ^^^ x) &&& 9223372036854775808 : Nat) : Int) := bits_and_u64_nat _ 9223372036854775808 h2 (by decide)
  rw [h1, h3, not_sign h]
  have h4 : (if x < 9223372036854775808 then 9223372036854775808 else 0 : Nat) < 18446744073709551616 := by split <;> decide
  have h5 := bits_or_u64_nat r (if x < 9223372036854775808 then 9223372036854775808 else 0) (by omega) h4
  rw [h5]
  congr 1
  split
  · have := Nat.two_pow_add_eq_or_of_lt (i := 63) (b := r) (by omega) 1
    rw [Nat.mul_one] at this
    rw [Nat.or_comm]
    rw [Nat.add_comm]
    exact this.symm
  · simp
set_option maxRecDepth 100000 in
set_option maxHeartbeats 8000000 in
theorem house_make {va : Option Addr} {m cap : Nat} {xs : List Nat} {w : World} (hA : Arg w (.slice va m cap) xs) (hx : Low 18446744073709551616 xs) (hxn : xs.length ≤ 17592186044415) :
    Calls Try.prog 49 #[.slice va m cap] w fun e W' => ∃ a n c, e = .returned (.tuple #[.slice a n c, .int .u64 (hoRT xs : Int), .int .u64 (hoRB xs : Int), .int .i64 (hoE xs)]) ∧ New w.heap.size W' (.slice a n c) (hoRV xs) ∧ Below w.heap.size w W' := by
  have hpos : 0 < w.heap.size := by obtain ⟨S, hS, _⟩ := hA; omega
  have hmx : m = xs.length := by
    obtain ⟨a', c', e⟩ := hA.slice
    simp only [Value.slice.injEq] at e
    omega
  have hC := vec_check hA hx (by omega)
  have HD := Lib.hid (fun (W : World) (h : Below w.heap.size w W) => vec_dot (hA.behind h) (hA.behind h) hx hx (by omega) (by omega))
  have HZ := Lib.hid (fun (x : Nat) (W : World) (h : x < 18446744073709551616) => house_nz (x := x) (w := W) (by omega))
  rcases ho_ways xs with ⟨h1, e1, e2, e3, e4⟩ | ⟨h1, h2, e1, e2, e3, e4⟩ | h | h | h | h
  · rw [e1, e2, e3, e4]
    have d : (chkV xs != 0) = true := bne_iff_ne.2 h1
    generalize chkV xs = E at *
    clear h1 e1 e2 e3 e4 hA hx hxn hmx
    go_enter Try.func49, Try.ntmps49
    go_wp2_with fail
    refine hC.mono ?_
    rintro e w2 ⟨rfl, b2⟩
    have HB := Lib.hid b2
    clear hC b2
    go_wp2
    (try simp only [Exit.inBlock, Exit.then])
    refine bodyPost_ret (results_tmp4 rfl _ _ _) rfl ?_
    exact ⟨none, 0, 0, rfl, new_nil (b := 0) (Nat.lt_of_lt_of_le hpos HB.out.size), HB.out⟩
  · rw [e1, e2, e3, e4]
    rw [h1] at hC
    obtain rfl : m = 0 := by omega
    clear h1 h2 e1 e2 e3 e4 hA hx hxn hmx
    go_enter Try.func49, Try.ntmps49
    go_wp2_with fail
    refine hC.mono ?_
    rintro e w2 ⟨rfl, b2⟩
    have HB := Lib.hid b2
    clear hC b2
    go_wp2
    (try simp only [Exit.inBlock, Exit.then])
    refine bodyPost_ret (results_tmp4 rfl _ _ _) rfl ?_
    exact ⟨none, 0, 0, rfl, new_nil (b := 0) (Nat.lt_of_lt_of_le hpos HB.out.size), HB.out⟩
  all_goals
    obtain ⟨q, hq⟩ : ∃ q, m = q + 1 := ⟨m - 1, by rcases h with ⟨_, h, _⟩; omega⟩
    obtain ⟨S, hS, hR⟩ := hA
    obtain ⟨sa, sc, es, hcap, hof⟩ := hR.slice
    simp only [Value.slice.injEq] at es
    obtain ⟨rfl, -, rfl⟩ := es
    obtain ⟨off, rfl⟩ := hof (by rw [← hmx]; omega)
    have hm1 : xs.length - 1 = q := by omega
    have HA : Hid (Arg w (.slice (some ⟨S, off, none⟩) m cap) xs) := Lib.hid ⟨S, hS, hR⟩
    have hkc : w.cell? ⟨S, off + 0, none⟩ = some (.int .u64 (lim xs 0 : Int)) := hR.cell (by omega)
    rw [Nat.add_zero] at hkc
    have HKX : Hid (∀ W, Below w.heap.size w W → W.cell? ⟨S, off, none⟩ = some (.int .u64 (lim xs 0 : Int))) := Lib.hid (fun W h => (h.cell (p := ⟨S, off, none⟩) hS).trans hkc)
    have hl0 := lim_lt hx (by decide : 0 < 18446744073709551616) 0
    have hRZ := fun (W : World) (h : Below w.heap.size w W) => house_anynz (v := .slice (some ⟨S, off + 1, none⟩) q (cap - 1)) ((HA.out.behind h).part (o := 1) (k := q) (cap' := cap - 1) (by omega) (by omega)) (partW_low' hx) (by rw [partW_length]; omega)
    have hRZ0 := fun (W : World) (h : Below w.heap.size w W) (h0 : q = 0) (c : Nat) => house_anynz (v := .slice (some ⟨S, off, none⟩) 0 c) (xs := partW xs 1 q) ⟨S, Nat.lt_of_lt_of_le hS h.size, .inl ⟨⟨_, _, rfl⟩, by subst h0; rfl⟩⟩ (partW_low' hx) (by rw [partW_length]; omega)
    simp only [still_any, ← hm1] at hRZ hRZ0
    rw [hm1] at hRZ hRZ0
  -- WAYS
  · obtain ⟨h1, h2, h3, e1, e2, e3, e4⟩ := h
    rw [e1, e2, e3, e4]
    rw [h1] at hC
    rw [hm1] at h3
    rw [h3] at hRZ hRZ0
    have HMK := Lib.hid (makeN_u64 m (by omega))
    have HOWN := Lib.hid (fun W => OwnK.full .u64 32 W m (by omega))
    have hz := fun w => pzero1 false w
    rw [show sgn false = 0 from rfl] at hz
    have HZE := Lib.hid hz
    have HU : Hid ((List.replicate m (0 : Int)).set 0 4607182418800017408 = zn (hoU xs)) := Lib.hid (by
      unfold hoU zn
      rw [← hmx, hq]
      unfold rowV
      rw [List.range_succ_eq_map, List.replicate_succ, List.set_cons_zero]
      simp only [List.map_cons, List.map_map]
      congr 1
      rw [List.map_congr_left (g := fun _ => (0 : Int)) (fun a _ => by simp), List.map_const', List.length_range])
    generalize lim xs 0 = x0 at *
    have d0 : ((m : Int) == 0) = false := beq_eq_false_iff_ne.2 (by omega)
    have d1 : (1 : Int) ≤ (m : Int) := by omega
    have d2 : m - 1 = q := by omega
    have d3 : (m : Int) ≤ (cap : Int) := by omega
    have d4 : (0 : Int) < (m : Int) := by omega
    have d5 : m ≤ cap := by omega
    have d6 : 0 < m := by omega
    generalize hou : hoU xs = hu at *
    by_cases hc1 : cap = 1
    · have hm2 : m = 1 := by omega
      obtain rfl : q = 0 := by omega
      subst hc1
      clear e1 e2 e3 e4 h1 h2 h3 hx hxn hR hof hcap hmx hm1 hq hl0 hou hz hkc HD hm2
      have hRZ1 := fun W h => hRZ0 W h rfl 0
      clear hRZ0
      go_enter Try.func49, Try.ntmps49
      go_wp2_with fail
      refine hC.mono ?_
      rintro e w2 ⟨rfl, b2⟩
      clear hC
      go_wp2_with fail
      refine (hRZ1 _ b2).mono ?_
      rintro e w3 ⟨rfl, b3⟩
      have B3 := below_both b2 b3
      clear hRZ hRZ1 b2 b3
      have hmk1 := HMK.out w3
      have ho := HOWN.out w3
      have hb3 := (Below.refl w3.heap.size w3).alloc (Nat.le_refl _) (.cells (madeCells #[.int .u64 0] m) 32)
      go_upto_region 9 with (fail)
      clear hmk1
      generalize w3.alloc (.cells (madeCells #[.int .u64 0] m) 32) = w4 at *
      have kc := ho.cell (j := 0) (by simp; omega)
      have kf := ho.frozen 0
      have ho2 := ho.set 0 4607182418800017408
      rw [HU.out] at ho2
      have hb4 := hb3.setCell (p := ⟨w3.heap.size, 0, none⟩) (Nat.le_refl _) (.int .u64 4607182418800017408)
      have B4 := below_both B3 hb4
      have kx := HKX.out _ B4
      have HB := Lib.hid B4
      have HN := Lib.hid ((new_zn.2 (ho2.new (Nat.lt_of_lt_of_le hpos B4.size))).lower (n' := w.heap.size) B3.size)
      clear ho ho2 hb4 B4 B3 hb3
      go_wp2
      go_region_held3 (fun W => W.cell? ⟨S, off, none⟩ = some (.int .u64 (x0 : Int)))
        (first | with_reducible exact HKX.out _ HB.out | with_reducible exact HKX.out _ HB.out.drew | go_keep)
        (first
          | (go_at_call 58; (with_reducible refine (HZE.out _).mono ?_); rintro e v4 ⟨rfl, rfl⟩))
      go_wp2
      (try simp only [Exit.inBlock, Exit.then])
      refine bodyPost_ret (results_tmp4 rfl _ _ _) rfl ?_
      exact ⟨_, _, _, rfl, (by first | exact HN.out | exact HN.out.behind (Below.refl _ _).drew), (by first | exact HB.out | exact HB.out.drew)⟩
    · clear e1 e2 e3 e4 h1 h2 h3 hx hxn hR hof hcap hmx hm1 hq hl0 hou hz hkc HD
      go_enter Try.func49, Try.ntmps49
      go_wp2_with fail
      refine hC.mono ?_
      rintro e w2 ⟨rfl, b2⟩
      clear hC
      go_wp2_with fail
      refine (hRZ _ b2).mono ?_
      rintro e w3 ⟨rfl, b3⟩
      have B3 := below_both b2 b3
      clear hRZ hRZ0 b2 b3
      have hmk1 := HMK.out w3
      have ho := HOWN.out w3
      have hb3 := (Below.refl w3.heap.size w3).alloc (Nat.le_refl _) (.cells (madeCells #[.int .u64 0] m) 32)
      go_upto_region 9 with (fail)
      clear hmk1
      generalize w3.alloc (.cells (madeCells #[.int .u64 0] m) 32) = w4 at *
      have kc := ho.cell (j := 0) (by simp; omega)
      have kf := ho.frozen 0
      have ho2 := ho.set 0 4607182418800017408
      rw [HU.out] at ho2
      have hb4 := hb3.setCell (p := ⟨w3.heap.size, 0, none⟩) (Nat.le_refl _) (.int .u64 4607182418800017408)
      have B4 := below_both B3 hb4
      have kx := HKX.out _ B4
      have HB := Lib.hid B4
      have HN := Lib.hid ((new_zn.2 (ho2.new (Nat.lt_of_lt_of_le hpos B4.size))).lower (n' := w.heap.size) B3.size)
      clear ho ho2 hb4 B4 B3 hb3
      go_wp2
      go_region_held3 (fun W => W.cell? ⟨S, off, none⟩ = some (.int .u64 (x0 : Int)))
        (first | with_reducible exact HKX.out _ HB.out | with_reducible exact HKX.out _ HB.out.drew | go_keep)
        (first
          | (go_at_call 58; (with_reducible refine (HZE.out _).mono ?_); rintro e v4 ⟨rfl, rfl⟩))
      go_wp2
      (try simp only [Exit.inBlock, Exit.then])
      refine bodyPost_ret (results_tmp4 rfl _ _ _) rfl ?_
      exact ⟨_, _, _, rfl, (by first | exact HN.out | exact HN.out.behind (Below.refl _ _).drew), (by first | exact HB.out | exact HB.out.drew)⟩
  · obtain ⟨h1, h2, h3, h4, e1, e2, e3, e4⟩ := h
    have hc1 : ¬ cap = 1 := fun h => by
      rw [hm1, show q = 0 by omega] at h3
      exact Bool.noConfusion (show true = false from h3)
    rw [e1, e2, e3, e4]
    rw [h1] at hC
    rw [hm1] at h3
    rw [h3] at hRZ
    rw [h4] at HD
    generalize dotR xs xs = dr at *
    have d0 : ((m : Int) == 0) = false := beq_eq_false_iff_ne.2 (by omega)
    have d1 : (1 : Int) ≤ (m : Int) := by omega
    have d2 : m - 1 = q := by omega
    have d3 : (m : Int) ≤ (cap : Int) := by omega
    have d4 : (0 : Int) < (m : Int) := by omega
    have d5 : m ≤ cap := by omega
    have d6 : 0 < m := by omega
    clear e1 e2 e3 e4 h1 h2 h3 h4 hx hxn hR hof hcap hmx hm1 hq hl0 hkc
    go_enter Try.func49, Try.ntmps49
    go_wp2_with fail
    refine hC.mono ?_
    rintro e w2 ⟨rfl, b2⟩
    clear hC
    go_wp2_with fail
    refine (hRZ _ b2).mono ?_
    rintro e w3 ⟨rfl, b3⟩
    have B3 := below_both b2 b3
    clear hRZ hRZ0 b2 b3
    go_wp2_with fail
    refine (HD.out _ B3).mono ?_
    rintro e w4 ⟨rfl, b4⟩
    have HB := Lib.hid (below_both B3 b4)
    clear HD B3 b4
    go_wp2
    (try simp only [Exit.inBlock, Exit.then])
    refine bodyPost_ret (results_tmp4 rfl _ _ _) rfl ?_
    exact ⟨none, 0, 0, rfl, new_nil (b := 0) (Nat.lt_of_lt_of_le hpos HB.out.size), HB.out⟩
  · obtain ⟨h1, h2, h3, h4, h5, h6, e1, e2, e3, e4⟩ := h
    have hc1 : ¬ cap = 1 := fun h => by
      rw [hm1, show q = 0 by omega] at h3
      exact Bool.noConfusion (show true = false from h3)
    rw [e1, e2, e3, e4]
    rw [h1] at hC
    rw [hm1] at h3
    rw [h3] at hRZ
    rw [h4, h5] at HD
    have hd1 : (dotV xs xs xs.length : Int) ≤ 18446744073709551615 := by have := dotV_lt xs xs xs.length; omega
    have hq1 := fun w => fsqrt_sqrt (a := dotV xs xs xs.length) (mode := 0) (w := w) hd1
    rw [show (rsqrt (dotV xs xs xs.length) 0).1 = rootU (dotV xs xs xs.length) from rfl, h6] at hq1
    have hz0 := fun W => HZ.out 0 W (by decide)
    rw [show decide (cls 0 ≠ 0) = false by decide] at hz0
    generalize (rsqrt (dotV xs xs xs.length) 0).2 = fl at *
    generalize dotV xs xs xs.length = dr at *
    have HQ := Lib.hid hq1
    have HZ0 := Lib.hid hz0
    have d0 : ((m : Int) == 0) = false := beq_eq_false_iff_ne.2 (by omega)
    have d1 : (1 : Int) ≤ (m : Int) := by omega
    have d2 : m - 1 = q := by omega
    have d3 : (m : Int) ≤ (cap : Int) := by omega
    have d4 : (0 : Int) < (m : Int) := by omega
    have d5 : m ≤ cap := by omega
    have d6 : 0 < m := by omega
    clear e1 e2 e3 e4 h1 h2 h3 h4 h5 h6 hx hxn hR hof hcap hmx hm1 hq hl0 hkc hd1 hq1 hz0
    go_enter Try.func49, Try.ntmps49
    go_wp2_with fail
    refine hC.mono ?_
    rintro e w2 ⟨rfl, b2⟩
    clear hC
    go_wp2_with fail
    refine (hRZ _ b2).mono ?_
    rintro e w3 ⟨rfl, b3⟩
    have B3 := below_both b2 b3
    clear hRZ hRZ0 b2 b3
    go_wp2_with fail
    refine (HD.out _ B3).mono ?_
    rintro e w4 ⟨rfl, b4⟩
    have B4 := below_both B3 b4
    clear HD B3 b4
    go_wp2_with fail
    refine (HQ.out _).mono ?_
    rintro e w5 ⟨rfl, b5⟩
    have HB := Lib.hid (below_both B4 b5)
    clear HQ B4 b5
    go_wp2_with fail
    refine (HZ0.out _).mono ?_
    rintro e w6 ⟨rfl, rfl⟩
    go_wp2
    (try simp only [Exit.inBlock, Exit.then])
    refine bodyPost_ret (results_tmp4 rfl _ _ _) rfl ?_
    exact ⟨none, 0, 0, rfl, new_nil (b := 0) (Nat.lt_of_lt_of_le hpos HB.out.size), HB.out⟩
  · obtain ⟨h1, h2, h3, h4, h5, h6, e1, e2, e3, e4⟩ := h
    have hc1 : ¬ cap = 1 := fun h => by
      rw [hm1, show q = 0 by omega] at h3
      exact Bool.noConfusion (show true = false from h3)
    rw [e1, e2, e3, e4]
    rw [h1] at hC
    rw [hm1] at h3
    rw [h3] at hRZ
    rw [h4, h5] at HD
    have hd1 : (dotV xs xs xs.length : Int) ≤ 18446744073709551615 := by have := dotV_lt xs xs xs.length; omega
    have hP : Pos (rootU (dotV xs xs xs.length)) := root_pos (dot_self (finB_iff.1 (chkV_ok.1 h1).2))
    have hq1 := fun w => fsqrt_sqrt (a := dotV xs xs xs.length) (mode := 0) (w := w) hd1
    rw [show (rsqrt (dotV xs xs xs.length) 0).1 = rootU (dotV xs xs xs.length) from rfl] at hq1
    have hz0 := fun W => HZ.out (rootU (dotV xs xs xs.length)) W (by unfold Pos at hP; omega)
    rw [show decide (cls (rootU (dotV xs xs xs.length)) ≠ 0) = true from decide_eq_true (fun h => h6 ((pos_cls0 hP).1 h))] at hz0
    have hbb : hoB xs ≤ 18446744073709551615 := by unfold hoB; unfold Pos at hP; split <;> omega
    have HM := Lib.hid (fun (W : World) (h : Below w.heap.size w W) => house_mirror (b := hoB xs) (HA.out.behind h) hx h2 (chkV_ok.1 h1).1 (by omega))
    have HHB : Hid (hoB xs = rootU (dotV xs xs xs.length) + if lim xs 0 < 9223372036854775808 then 9223372036854775808 else 0) := Lib.hid rfl
    generalize (rsqrt (dotV xs xs xs.length) 0).2 = fl at *
    generalize rootU (dotV xs xs xs.length) = rt at *
    generalize dotV xs xs xs.length = dr at *
    generalize lim xs 0 = x0 at *
    generalize (if mirE xs (hoB xs) = 0 then mirT xs (hoB xs) else 0) = RT at *
    generalize (if mirE xs (hoB xs) = 0 then hoB xs else 0) = RB at *
    generalize (if mirE xs (hoB xs) = 0 then mirV xs (hoB xs) else []) = RV at *
    generalize mirE xs (hoB xs) = RE at *
    generalize hoB xs = bb at *
    have HQ := Lib.hid hq1
    have HZ0 := Lib.hid hz0
    have HPP := Lib.hid hP
    have hr1 : (rt : Int) ≤ 18446744073709551615 := by unfold Pos at hP; omega
    have hx01 : (x0 : Int) ≤ 18446744073709551615 := by omega
    have HLL := Lib.hid hl0
    have d0 : ((m : Int) == 0) = false := beq_eq_false_iff_ne.2 (by omega)
    have d1 : (1 : Int) ≤ (m : Int) := by omega
    have d2 : m - 1 = q := by omega
    have d3 : (m : Int) ≤ (cap : Int) := by omega
    have d4 : (0 : Int) < (m : Int) := by omega
    have d5 : m ≤ cap := by omega
    have d6 : 0 < m := by omega
    clear e1 e2 e3 e4 h1 h2 h3 h4 h5 h6 hx hxn hR hof hcap hmx hm1 hq hl0 hkc hd1 hq1 hz0 hP hbb
    go_enter Try.func49, Try.ntmps49
    go_wp2_with fail
    refine hC.mono ?_
    rintro e w2 ⟨rfl, b2⟩
    clear hC
    go_wp2_with fail
    refine (hRZ _ b2).mono ?_
    rintro e w3 ⟨rfl, b3⟩
    have B3 := below_both b2 b3
    clear hRZ hRZ0 b2 b3
    go_wp2_with fail
    refine (HD.out _ B3).mono ?_
    rintro e w4 ⟨rfl, b4⟩
    have B4 := below_both B3 b4
    clear HD B3 b4
    go_wp2_with fail
    refine (HQ.out _).mono ?_
    rintro e w5 ⟨rfl, b5⟩
    have B5 := below_both B4 b5
    have kx := HKX.out _ B5
    clear HQ B4 b5
    go_wp2_with fail
    refine (HZ0.out _).mono ?_
    rintro e w6 ⟨rfl, rfl⟩
    clear HZ0
    go_wp2_with fail
    rw [beta_bits HPP.out HLL.out, ← HHB.out]
    refine (HM.out _ B5).mono ?_
    rintro e w7 ⟨a7, n7, c7, rfl, hN7, b7⟩
    have HB := Lib.hid (below_both B5 b7)
    have HN := Lib.hid (hN7.lower (n' := w.heap.size) B5.size)
    clear HM B5 b7 hN7
    go_wp2
    (try simp only [Exit.inBlock, Exit.then])
    refine bodyPost_ret (results_tmp4 rfl _ _ _) rfl ?_
    exact ⟨_, _, _, rfl, HN.out, HB.out⟩
end Go.Proofs.Ytdcebkhdnhdejaa
