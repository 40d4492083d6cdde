/- natdiv.digits; natdiv.DivMod: how often a number is in another one, and what is left. -/
import Derived.Test.YtdcebkhdnhdejaaDigit
import Derived.Test.YtdcebkhdnhdejaaShl
import Derived.Deep.RegionHeld3
import Derived.Deep.DrawnRows
namespace Go.Proofs.Ytdcebkhdnhdejaa
open Go.RowKit Go.Shelf

attribute [local go_sem] Oper.semAt_some

theorem ndigits_in (F : Fence) (n : Nat) (hf : F.fn 165) (hro : F.round = none) (a a' : Option Addr) (len cap len' cap' : Nat) (w : World) :
    CallsIn F n Try.prog 165 #[.slice a len cap, .slice a' len' cap'] w fun e w' => e = .returned (.func (.func 173) #[] #[.pointer (some ⟨w.heap.size, 0, none⟩), .pointer (some ⟨w.heap.size + 1, 0, none⟩)]) ∧ w' = (w.alloc (.cells #[.slice a len cap] 22)).alloc (.cells #[.slice a' len' cap'] 22) := by
  refine callsIn_of_wp Try.func165 rfl hf ?_ hro
  simp only [Try.ntmps165, List.size_toArray, List.length_cons, List.length_nil, Nat.reduceAdd, Nat.reduceSub, Array.replicate_succ, Array.replicate_zero, List.push_toArray, List.append_toArray, List.nil_append, List.cons_append]
  gi_wp2
  go_ret
  exact ⟨rfl, rfl⟩

theorem Steady.ex {B₀ : Nat} {α : Type} {I : α → World → Prop} (h : ∀ a, Steady B₀ (I a)) : Steady B₀ (fun W => ∃ a, I a W) := fun u W W' row ⟨a, ha⟩ hg hr => ⟨a, h a u W W' row ha hg hr⟩
/-- the memory while a quotient is reckoned: the rest's words, the quotient's, the boxes, the divisor's words -/
def dmM (n0 S S2 N L capD : Nat) (s2 : List Nat) (w : World) (R Q : List Nat) (W : World) : Prop :=
  (Row .u64 32 W S R ∧ Row .u64 32 W n0 Q ∧ Boxed W (n0 + 1) 22 (.slice (some ⟨n0, 0, none⟩) N N) ∧ Boxed W (n0 + 1 + 1) 22 (.slice (some ⟨S, 0, none⟩) (N + L) (N + L)) ∧ Boxed W (n0 + 1 + 1 + 1) 22 (.slice (some ⟨S2, 0, none⟩) L capD) ∧ Row .u64 32 W S2 s2) ∧ Below w.heap.size w W
theorem dmM_steady (n0 S S2 N L capD : Nat) (s2 : List Nat) (w : World) (R Q : List Nat) {B₀ : Nat} (h : w.heap.size ≤ B₀) : Steady B₀ (dmM n0 S S2 N L capD s2 w R Q) :=
  (steady_row.and (steady_row.and (steady_boxed.and (steady_boxed.and (steady_boxed.and steady_row))))).and (steady_below h (Nat.le_refl _))
theorem dmM.drew {n0 S S2 N L capD : Nat} {s2 : List Nat} {w : World} {R Q : List Nat} {W : World} (h : dmM n0 S S2 N L capD s2 w R Q W) : dmM n0 S S2 N L capD s2 w R Q W.drew := ⟨h.1, h.2.drew⟩
/-- .. with k digits reckoned -/
def dmI (U D n0 S S2 N L capD : Nat) (s2 : List Nat) (w : World) (k : Nat) (W : World) : Prop := ∃ x : List Nat × List Nat, Dm U D L N k x.1 x.2 ∧ dmM n0 S S2 N L capD s2 w x.1 x.2 W
theorem dmI_steady (U D n0 S S2 N L capD : Nat) (s2 : List Nat) (w : World) (k : Nat) {B₀ : Nat} (h : w.heap.size ≤ B₀) : Steady B₀ (dmI U D n0 S S2 N L capD s2 w k) :=
  Steady.ex fun x => (steady_pure (p := Dm U D L N k x.1 x.2)).and (dmM_steady n0 S S2 N L capD s2 w x.1 x.2 h)
/-- .. and one digit more is told, not yet laid into the quotient -/
structure DmS where
  k : Nat
  t : List Nat
  Q : List Nat
  q : Nat
def dmB (U D n0 S S2 N L capD : Nat) (s2 : List Nat) (w : World) (s : DmS) (W : World) : Prop := (s.k < N ∧ s.Q.length = N ∧ Dm U D L N (s.k + 1) s.t (s.Q.set (N - 1 - s.k) s.q)) ∧ dmM n0 S S2 N L capD s2 w s.t s.Q W
theorem dmB_steady (U D n0 S S2 N L capD : Nat) (s2 : List Nat) (w : World) (s : DmS) {B₀ : Nat} (h : w.heap.size ≤ B₀) : Steady B₀ (dmB U D n0 S S2 N L capD s2 w s) :=
  (steady_pure (p := s.k < N ∧ s.Q.length = N ∧ Dm U D L N (s.k + 1) s.t (s.Q.set (N - 1 - s.k) s.q))).and (dmM_steady n0 S S2 N L capD s2 w s.t s.Q h)

set_option maxRecDepth 100000 in
set_option maxHeartbeats 4000000 in
theorem divmod_own (n : Nat) (hn : 9 ≤ n) (ba bb : Nat) (va vb : Value) (xs ys al bl : List Nat) (hxs : xs.length ≤ 4398046511104) (hys : ys.length ≤ 4398046511104) (hx : Low 18446744073709551616 xs) (hy : Low 18446744073709551616 ys) (ha : cutz xs = al) (hb : cutz ys = bl) (hb0 : 0 < bl.length) (hab : bl.length ≤ al.length)
    (w : World) (hba : ba < w.heap.size) (hbb : bb < w.heap.size) (hIa : RdAt ba w va xs) (hIb : RdAt bb w vb ys) :
    CallsIn Fence.wide n Try.prog 153 #[va, vb] w fun e W' => ∃ q r, e = .returned (.tuple #[q, r, .int .i64 0]) ∧ New w.heap.size W' q (digs 18446744073709551616 (val 18446744073709551616 al / val 18446744073709551616 bl)) ∧ (∃ S, (RdAt S W' r (digs 18446744073709551616 (val 18446744073709551616 al % val 18446744073709551616 bl)) ∧ Wb W' S) ∧ w.heap.size ≤ S) ∧ Below w.heap.size w W' := by
  have h1 : 1 ≤ n := by omega
  have hmx := follows
  have hla : al.length ≤ 4398046511104 := by rw [← ha]; exact Nat.le_trans (cutz_length xs) hxs
  have hlb : bl.length ≤ 4398046511104 := by rw [← hb]; exact Nat.le_trans (cutz_length ys) hys
  have hxa : Low 18446744073709551616 al := by rw [← ha]; exact cutz_low hx
  have hyb : Low 18446744073709551616 bl := by rw [← hb]; exact cutz_low hy
  have htop : lim bl (bl.length - 1) ≠ 0 := cutz_top (by rw [← hb, cutz_cutz]) (List.length_pos_iff.1 hb0)
  have hta := fun (u : World) (h : ba < u.heap.size) (hr : RdAt ba u va xs) => ntrim_calls ba va xs (by omega) hx u h hr
  have htb := fun (u : World) (h : bb < u.heap.size) (hr : RdAt bb u vb ys) => ntrim_calls bb vb ys (by omega) hy u h hr
  rw [ha] at hta
  rw [hb] at htb
  have HTA := Lib.hid hta
  have HTB := Lib.hid htb
  clear hta htb
  refine callsIn_of_wp_marks Try.func153 rfl trivial ?_ rfl
  simp only [Try.ntmps153, List.size_toArray, List.length_cons, List.length_nil, Nat.reduceAdd, Nat.reduceSub, Array.replicate_succ, Array.replicate_zero, List.push_toArray, List.append_toArray, List.nil_append, List.cons_append]
  gi_wp2_with fail
  refine ⟨trivial, ?_⟩
  gi_at_call 162
  refine (callsIn_wide.2 (HTA.out w hba hIa)).mono ?_
  rintro e w1 ⟨v1, rfl, hr1, hb1⟩
  have hIb1 := hIb.kept (hb1.block bb hbb)
  have hbb1 := Nat.lt_of_lt_of_le hbb hb1.size
  gi_wp2_with fail
  refine ⟨trivial, ?_⟩
  gi_at_call 162
  refine (callsIn_wide.2 (HTB.out w1 hbb1 hIb1)).mono ?_
  rintro e w2 ⟨v2, rfl, hr2, hb2⟩
  have hba1 := Nat.lt_of_lt_of_le hba hb1.size
  have hr1 := hr1.kept (hb2.block ba hba1)
  have hba2 := Nat.lt_of_lt_of_le hba1 hb2.size
  have hbb2 := Nat.lt_of_lt_of_le hbb1 hb2.size
  have B2 := below_both hb1 hb2
  clear HTA HTB hb1 hb2 hIa hIb hIb1 hba1 hbb1 hba hbb
  have HR1 := Lib.hid hr1
  have HR2 := Lib.hid hr2
  obtain ⟨a1, c1, rfl, hc1, hs1⟩ := hr1.slice
  obtain ⟨a2, c2, rfl, hc2, hs2⟩ := hr2.slice
  obtain ⟨o1, rfl⟩ := hs1 (by omega)
  obtain ⟨o2, rfl⟩ := hs2 hb0
  clear hs1 hs2 hr1
  obtain ⟨L, hL⟩ : ∃ L, L = bl.length := ⟨_, rfl⟩
  obtain ⟨m, hm⟩ : ∃ m, m = bl.length - 1 := ⟨_, rfl⟩
  have hcell := hr2.cell (j := m) (by omega)
  have htl := lim_lt hyb (by decide) m
  rw [← hm] at htop
  have hnb := nbits_bounds htop
  have hnb2 : nbits (lim bl m) ≤ 64 := nbits_le (by simpa using htl)
  obtain ⟨g, hg⟩ : ∃ g, g = 64 - nbits (lim bl m) := ⟨_, rfl⟩
  have hdv := fun (s : List Nat) (h1 : Low 18446744073709551616 s) (h2 : bl.length ≤ s.length) (h3 : val 18446744073709551616 s = val 18446744073709551616 bl * 2 ^ g) => dv_top hyb h1 hb0 (by rw [← hm]; exact htop) (by rw [← hm]; omega) h2 h3
  rw [← hm] at hdv
  have hlz := fun u => lz_calls (lim bl m) htl u
  rw [← hg] at hlz
  have hg63 : g ≤ 63 := by omega
  have hd0 : ((bl.length : Int) == 0) = false := beq_eq_false_iff_ne.2 (by omega)
  have hd1 : decide (al.length < bl.length) = false := decide_eq_false (by omega)
  have hm1 : (bl.length : Int) - 1 = (m : Int) := by omega
  have hmL : (m : Int) < (bl.length : Int) := by omega
  have HM := Lib.hid hm
  have hrwa := fun (u : World) (h : ba < u.heap.size) (hr : RdAt ba u (.slice (some ⟨ba, o1, none⟩) al.length c1) al) => raiseWide_calls ba _ al g hla (by omega) hxa u h hr
  have hrwb := fun (u : World) (h : bb < u.heap.size) (hr : RdAt bb u (.slice (some ⟨bb, o2, none⟩) bl.length c2) bl) => raiseWide_calls bb _ bl g hlb (by omega) hyb u h hr
  have HDV := Lib.hid hdv
  have HLZ := Lib.hid hlz
  have HRA := Lib.hid hrwa
  have HRB := Lib.hid hrwb
  have HTOP := Lib.hid htop
  clear hdv hlz hrwa hrwb htop hnb hnb2 hr2
  clear hg hm
  gi_wp2_with fail
  refine ⟨trivial, ?_⟩
  gi_at_call 142
  refine (callsIn_wide.2 (HLZ.out _)).mono ?_
  rintro e w3' ⟨rfl, rfl⟩
  clear HLZ hcell hmL hm1
  gi_wp2_with fail
  refine ⟨trivial, ?_⟩
  gi_at_call 163
  refine (callsIn_wide.2 (HRA.out _ hba2 HR1.out)).mono ?_
  rintro e w3 ⟨S, s, rfl, hS, hS1, hsl, hslow, hsv, hb3⟩
  have hS3lt := hS.lt
  have hbb3 := Nat.lt_of_lt_of_le hbb2 hb3.size
  have HR3 := Lib.hid (HR2.out.kept (hb3.block bb hbb2))
  clear HR1 HR2 HRA
  have HSL := Lib.hid hsl
  clear hsl
  have HSV := Lib.hid hsv
  clear hsv
  generalize hsn : s.length = sn at *
  gi_wp2_with fail
  refine ⟨trivial, ?_⟩
  gi_at_call 163
  refine (callsIn_wide.2 (HRB.out _ hbb3 HR3.out)).mono ?_
  rintro e w4 ⟨S2, s2, rfl, hS2, hS3, hsl2, hslow2, hsv2, hb4⟩
  have hm := HM.out
  have hS := hS.behind hb4
  have hwS : w.heap.size ≤ S := Nat.le_trans B2.size hS1
  have B4 := below_both (below_both B2 hb3) hb4
  have hS4 : S < w4.heap.size := hS.lt
  have hS24 : S2 < w4.heap.size := hS2.lt
  have hne : S2 ≠ S := by omega
  have hw4 : w.heap.size ≤ w4.heap.size := B4.size
  have hg64 : g / 64 = 0 := by omega
  have hsl := HSL.out
  rw [hg64] at hsl
  rw [hg64] at hsl2
  clear HRB HR3 hbb3 hg64 HSL hb3 hb4
  obtain ⟨dv1, dv2, dv3⟩ := HDV.out s2 hslow2 (by omega) hsv2
  have hDl : (s2.take bl.length).length = bl.length := by rw [List.length_take]; omega
  have hDlow : Low 18446744073709551616 (s2.take bl.length) := fun x hx => hslow2 x (List.mem_of_mem_take hx)
  have hrdD : ∀ W, Row .u64 32 W S2 s2 → RdAt S2 W (.slice (some ⟨S2, 0, none⟩) bl.length s2.length) (s2.take bl.length) := fun W h => RdAt.take (h.rd _ (Nat.le_refl _)) (by omega)
  obtain ⟨N, hN⟩ : ∃ N, N = al.length + 1 - bl.length := ⟨_, rfl⟩
  have hNL : N + bl.length = al.length + 1 := by omega
  have hsn2 : sn = N + bl.length := by omega
  have hN0 : 0 < N := by omega
  have hN1 : (al.length : Int) - (bl.length : Int) + 1 = (N : Int) := by omega
  have hfit := dv_fits (g := g) (N := N) hxa hg63 hb0 hNL (by rw [← hm]; exact dv3)
  have HST := Lib.hid (dm_start (D := val 18446744073709551616 bl * 2 ^ g) (R := s) (by rw [hsn]; exact hsn2) hslow HSV.out hfit)
  have hD0 : 0 < val 18446744073709551616 bl * 2 ^ g := Nat.lt_of_lt_of_le (Nat.mul_pos (by decide) (Nat.pow_pos (by decide))) dv3
  have hDL : val 18446744073709551616 bl * 2 ^ g < 18446744073709551616 ^ bl.length := by
    have := val_lt hDlow (by decide)
    rwa [hDl, dv1] at this
  have HDD : Hid (∀ Q R, Dm (val 18446744073709551616 al * 2 ^ g) (val 18446744073709551616 bl * 2 ^ g) bl.length N N R Q → val 18446744073709551616 Q = val 18446744073709551616 al / val 18446744073709551616 bl ∧ val 18446744073709551616 R / 2 ^ g = val 18446744073709551616 al % val 18446744073709551616 bl) := Lib.hid fun Q R h => dm_done h
  rw [hm] at dv2
  clear hN HDV hsv2 hslow hsn hm dv3 hfit HTOP HSV hxa hyb ha hb hx hy
  subst hsn2
  generalize val 18446744073709551616 al * 2 ^ g = U at *
  generalize val 18446744073709551616 bl * 2 ^ g = D at *
  generalize hcapD : s2.length = capD at *
  have hcap2 : bl.length ≤ capD := by omega
  have hNle : N ≤ 17592186044416 := by omega
  have hNLle : N + bl.length ≤ 17592186044416 := by omega
  clear hsl2 hcapD hsl hNL
  have hmk : ∀ u : World, (Instr.makeSlice 22 (.int .i64 (N : Int)) (.int .i64 (N : Int))).run Try.prog u = .ok (.slice (some ⟨u.heap.size, 0, none⟩) N N) (u.alloc (.cells (cellsOf .u64 (List.replicate N 0)) 32)) := make_u64 N (by omega)
  gi_wp2_with fail
  refine ⟨trivial, ?_⟩
  gi_at_call 165
  refine (ndigits_in Fence.wide (n - 1) trivial rfl _ _ _ _ _ _ _).mono ?_
  rintro e w' ⟨rfl, rfl⟩
  gi_wp2_with fail
  clear hmk
  have b2 := (((Row.new w4 .u64 32 (List.replicate N 0)).alloc (.cells #[.slice (some ⟨w4.heap.size, 0, none⟩) N N] 22)).alloc (.cells #[.slice (some ⟨S, 0, none⟩) (N + bl.length) (N + bl.length)] 22)).alloc (.cells #[.slice (some ⟨S2, 0, none⟩) bl.length capD] 22)
  have b3 := ((Boxed.new (w4.alloc (.cells (cellsOf .u64 (List.replicate N 0)) 32)) 22 (.slice (some ⟨w4.heap.size, 0, none⟩) N N)).alloc (.cells #[.slice (some ⟨S, 0, none⟩) (N + bl.length) (N + bl.length)] 22)).alloc (.cells #[.slice (some ⟨S2, 0, none⟩) bl.length capD] 22)
  have b4 := (Boxed.new ((w4.alloc (.cells (cellsOf .u64 (List.replicate N 0)) 32)).alloc (.cells #[.slice (some ⟨w4.heap.size, 0, none⟩) N N] 22)) 22 (.slice (some ⟨S, 0, none⟩) (N + bl.length) (N + bl.length))).alloc (.cells #[.slice (some ⟨S2, 0, none⟩) bl.length capD] 22)
  have b5 := Boxed.new (((w4.alloc (.cells (cellsOf .u64 (List.replicate N 0)) 32)).alloc (.cells #[.slice (some ⟨w4.heap.size, 0, none⟩) N N] 22)).alloc (.cells #[.slice (some ⟨S, 0, none⟩) (N + bl.length) (N + bl.length)] 22)) 22 (.slice (some ⟨S2, 0, none⟩) bl.length capD)
  have hB4' : Below w4.heap.size w4 ((((w4.alloc (.cells (cellsOf .u64 (List.replicate N 0)) 32)).alloc (.cells #[.slice (some ⟨w4.heap.size, 0, none⟩) N N] 22)).alloc (.cells #[.slice (some ⟨S, 0, none⟩) (N + bl.length) (N + bl.length)] 22)).alloc (.cells #[.slice (some ⟨S2, 0, none⟩) bl.length capD] 22)) := ((((Below.refl _ w4).alloc (Nat.le_refl _) _).alloc (by simp) _).alloc (by simp; omega) _).alloc (by simp; omega) _
  have b1 := hS.behind hB4'
  have b6 := hS2.behind hB4'
  have hB0 := below_both B4 hB4'
  simp only [World.size_alloc] at b2 b3 b4 b5
  have hW0 : ((((w4.alloc (.cells (cellsOf .u64 (List.replicate N 0)) 32)).alloc (.cells #[.slice (some ⟨w4.heap.size, 0, none⟩) N N] 22)).alloc (.cells #[.slice (some ⟨S, 0, none⟩) (N + bl.length) (N + bl.length)] 22)).alloc (.cells #[.slice (some ⟨S2, 0, none⟩) bl.length capD] 22)).heap.size = w4.heap.size + 1 + 1 + 1 + 1 := by simp
  generalize ((((w4.alloc (.cells (cellsOf .u64 (List.replicate N 0)) 32)).alloc (.cells #[.slice (some ⟨w4.heap.size, 0, none⟩) N N] 22)).alloc (.cells #[.slice (some ⟨S, 0, none⟩) (N + bl.length) (N + bl.length)] 22)).alloc (.cells #[.slice (some ⟨S2, 0, none⟩) bl.length capD] 22)) = W0 at *
  refine wpIn_range (σ := DmS) rfl h1 (gf := 173) (lb := #[.pointer (some ⟨w4.heap.size + 1 + 1, 0, none⟩), .pointer (some ⟨w4.heap.size + 1 + 1 + 1, 0, none⟩)]) rfl trivial (enters_of Try.func173 (by kernel_rfl) rfl)
    (encs := fun s => #[.int .i64 ((N - 1 - s.k : Nat) : Int), .int .u64 (s.q : Int)]) (fun _ => rfl) (dmI U D w4.heap.size S S2 N bl.length capD s2 w 0) (fun s => dmI U D w4.heap.size S S2 N bl.length capD s2 w (s.k + 1)) (dmB U D w4.heap.size S S2 N bl.length capD s2 w) (dmI U D w4.heap.size S S2 N bl.length capD s2 w N) (fun _ _ => False)
    (dmI_steady _ _ _ _ _ _ _ _ _ _ _ (by omega)) (fun _ => dmI_steady _ _ _ _ _ _ _ _ _ _ _ (by omega)) (fun _ => dmB_steady _ _ _ _ _ _ _ _ _ _ _ (by omega)) (dmI_steady _ _ _ _ _ _ _ _ _ _ _ (by omega)) (fun _ => steady_pure)
    ⟨(s, List.replicate N 0), HST.out, ⟨b1, b2, b3, b4, b5, b6⟩, hB0⟩ ?seq ?a1 ?assign ?body ?done ?stop
  case seq =>
    intro l X Xz W hl hXs hI0 hX hY
    refine digits_st (σ := DmS) (n - 1) (by omega) l (w4.heap.size + 1 + 1) (w4.heap.size + 1 + 1 + 1) S bl.length N (N + bl.length) capD (some ⟨S2, 0, none⟩) (fun s => s.q) (by omega) (by omega) (Nat.le_refl _) (dmI U D w4.heap.size S S2 N bl.length capD s2 w) (dmB U D w4.heap.size S S2 N bl.length capD s2 w) X _ Xz ?_ ?_ ?_ ?_ W hI0 hX
    · rintro k W _ ⟨x, _, ⟨_, _, _, c4, c5, _⟩, _⟩
      exact ⟨c4.cell, c5.cell⟩
    · rintro k W hk ⟨x, hd, ⟨c1, c2, c3, c4, c5, c6⟩, hB⟩ hx
      have ht := takeDigit_calls S (N - 1 - k) (N + bl.length - (N - 1 - k)) S2 _ x.1 (s2.take bl.length) hd.rlow hDlow (by have := hd.rl; omega) (by omega) (by omega) (by omega) (by rw [hDl]; exact dv2) (by rw [hDl, dv1]; exact dm_word hd hk) W c1 c6.lt hne (hrdD W c6)
      rw [hDl, dv1] at ht
      refine ht.mono ?_
      rintro e W' ⟨he, t, k1, tl, tlow, tout, tv, hO⟩
      have n1 : w4.heap.size ≠ S := by omega
      have n2 : w4.heap.size + 1 ≠ S := by omega
      have n3 : w4.heap.size + 1 + 1 ≠ S := by omega
      have n4 : w4.heap.size + 1 + 1 + 1 ≠ S := by omega
      have k2 : Row .u64 32 W' w4.heap.size x.2 := (hO.block _ c2.lt n1).trans c2
      have k3 : Boxed W' (w4.heap.size + 1) 22 _ := (hO.block _ c3.lt n2).trans c3
      have k4 : Boxed W' (w4.heap.size + 1 + 1) 22 _ := (hO.block _ c4.lt n3).trans c4
      have k5 : Boxed W' (w4.heap.size + 1 + 1 + 1) 22 _ := (hO.block _ c5.lt n4).trans c5
      have k6 : Row .u64 32 W' S2 s2 := (hO.block _ c6.lt hne).trans c6
      have hB' := Off.to_below hB hO hwS hB.size
      refine ⟨⟨k, t, x.2, pv x.1 (N - 1 - k) (bl.length + 1) / D⟩, he, k4.cell, k5.cell, hY ⟨k, t, x.2, pv x.1 (N - 1 - k) (bl.length + 1) / D⟩ W' ⟨⟨hk, hd.ql, dm_step hd hDL hD0 hk tl tlow tout tv⟩, ⟨k1, k2, k3, k4, k5, k6⟩, hB'⟩ (hXs W W' hx ⟨hO.size, fun i o hi ho _ => ?_⟩)⟩
      exact (hO.block i (Array.getElem?_eq_some_iff.1 ho).1 (by omega)).trans ho
    · rintro k W _ ⟨x, hd, hm⟩
      exact ⟨x, hd, hm.drew⟩
    · intro W hx
      exact hXs W W.drew hx ((KeepsOthers.drew W).from _)
  case assign =>
    intro l x W K hK
    gi_wp2
    exact hK
  case body =>
    rintro l ⟨k, t, Q, q⟩ W hl ⟨⟨hk, hql, hd⟩, ⟨c1, c2, c3, c4, c5, c6⟩, hB⟩
    dsimp only at *
    have HD := Lib.hid hd
    clear hd
    have hiN : N - 1 - k < N := by omega
    generalize N - 1 - k = i at *
    have k3 := c3.cell
    have k2 := c2.cell (i := i) (by omega)
    have g2 := c2.frozen i
    have hii : (i : Int) < (N : Int) := by omega
    have d1 := c1.far (p := ⟨w4.heap.size, i, none⟩) (by (try dsimp only); omega) (.int .u64 (q : Int))
    have d2 := c2.set i q
    have d3 := c3.far (p := ⟨w4.heap.size, i, none⟩) (by (try dsimp only); omega) (.int .u64 (q : Int))
    have d4 := c4.far (p := ⟨w4.heap.size, i, none⟩) (by (try dsimp only); omega) (.int .u64 (q : Int))
    have d5 := c5.far (p := ⟨w4.heap.size, i, none⟩) (by (try dsimp only); omega) (.int .u64 (q : Int))
    have d6 := c6.far (p := ⟨w4.heap.size, i, none⟩) (by (try dsimp only); omega) (.int .u64 (q : Int))
    have dB := hB.setCell (p := ⟨w4.heap.size, i, none⟩) (by (try dsimp only); omega) (.int .u64 (q : Int))
    gi_wp2
    exact ⟨(KeepsOthers.setCell _ _ _).from _, ⟨(t, Q.set i q), HD.out, ⟨d1, d2, d3, d4, d5, d6⟩, dB⟩⟩
  case done =>
    rintro D' W hD' ⟨⟨R, Q⟩, hd, ⟨c1, c2, c3, c4, c5, c6⟩, hB⟩ hK
    dsimp only at *
    rw [hW0] at hD'
    have k3 := c3.cell
    obtain ⟨e1, e2⟩ := HDD.out Q R hd
    have hql := hd.ql
    have hrl := hd.rl
    have hqlow := hd.qlow
    have hrlow := hd.rlow
    have htr := ntrim_calls w4.heap.size (.slice (some ⟨w4.heap.size, 0, none⟩) N N) Q (by omega) hqlow W c2.lt (by have := c2.rd N (by omega); rwa [hql] at this)
    have hfq : cutz Q = digs 18446744073709551616 (val 18446744073709551616 al / val 18446744073709551616 bl) := by rw [cutz_eq_digs (by decide) hqlow, e1]
    rw [hfq] at htr
    have hlw := fun (u : World) (h : Row .u64 32 u S R) => lower_calls S 0 (N + bl.length) R g (by omega) (by omega) (by omega) hrlow u h.seg
    rw [e2] at hlw
    rw [hrl] at hlw
    have HLW := Lib.hid hlw
    have HTR := Lib.hid htr
    have hD2 : D' < W.heap.size := (Array.getElem?_eq_some_iff.1 hK).1
    clear hlw htr hfq e1 e2 hql hrl hqlow hrlow hd c4 c5 c6 HDD HST
    gi_wp2_with fail
    refine ⟨trivial, ?_⟩
    gi_at_call 162
    refine (callsIn_wide.2 HTR.out).mono ?_
    rintro e w5 ⟨q, rfl, hq5, hb5⟩
    have k1 := c1.behind hb5
    have hK5 := (hb5.block D' hD2).trans hK
    have hB5 := hB.trans (hb5.mono hB.size)
    have hwb := hw4
    gi_wp2_with fail
    refine ⟨trivial, ?_⟩
    gi_at_call 155
    refine (callsIn_wide.2 (HLW.out w5 k1)).mono ?_
    rintro e w6 ⟨r, rfl, hr6, hwb6, hO6⟩
    have hn5 : w4.heap.size < w5.heap.size := Nat.lt_of_lt_of_le c2.lt hb5.size
    have hq6 := hq5.kept (hO6.block _ hn5 (by omega))
    have hK6 := (hO6.block D' (Nat.lt_of_lt_of_le hD2 hb5.size) (by omega)).trans hK5
    have hB6 := Off.to_below hB5 hO6 hwS hB5.size
    have hn6 : w4.heap.size < w6.heap.size := Nat.lt_of_lt_of_le hn5 hO6.size
    gi_wp2
    refine ⟨by simp, .inl ⟨_, _, rfl, run_takeDeferred hK6, ?_⟩⟩
    refine ⟨_, results_tmp3 rfl _ _ _, q, r, rfl, ⟨w4.heap.size, hq6.kept (World.putObj_heap_other (by omega)), ?_, .inr hw4⟩, ⟨S, ⟨hr6.kept (World.putObj_heap_other (by omega)), hwb6.kept (World.putObj_heap_other (by omega))⟩, hwS⟩, hB6.trans (belowK_b (w := w) (Nat.le_refl _) w6 D' _ _ (by omega) hK6 rfl rfl)⟩
    · simp; omega
  case stop =>
    rintro D' c W _ h _
    exact h.elim
theorem divmod_in (n : Nat) (hn : 9 ≤ n) (ba bb : Nat) (va vb : Value) (xs ys al bl : List Nat) (hxs : xs.length ≤ 4398046511104) (hys : ys.length ≤ 4398046511104) (hx : Low 18446744073709551616 xs) (hy : Low 18446744073709551616 ys) (ha : cutz xs = al) (hb : cutz ys = bl) (hb0 : 0 < bl.length) (hab : bl.length ≤ al.length)
    (w : World) (hba : ba < w.heap.size) (hbb : bb < w.heap.size) (hIa : RdAt ba w va xs) (hIb : RdAt bb w vb ys) :
    CallsIn Fence.wide n Try.prog 153 #[va, vb] w fun e W' => ∃ q r, e = .returned (.tuple #[q, r, .int .i64 0]) ∧ New w.heap.size W' q (digs 18446744073709551616 (val 18446744073709551616 al / val 18446744073709551616 bl)) ∧ New w.heap.size W' r (digs 18446744073709551616 (val 18446744073709551616 al % val 18446744073709551616 bl)) ∧ Below w.heap.size w W' :=
  (divmod_own n hn ba bb va vb xs ys al bl hxs hys hx hy ha hb hb0 hab w hba hbb hIa hIb).mono fun _ _ ⟨q, r, he, hq, ⟨S, ⟨h1, h2⟩, h3⟩, hB⟩ => ⟨q, r, he, hq, ⟨S, h1, h2.lt, .inr h3⟩, hB⟩
end Go.Proofs.Ytdcebkhdnhdejaa

/- natdiv.DivMod over numbers. -/
namespace Go.Proofs.Ytdcebkhdnhdejaa
open Go.RowKit Go.Shelf

theorem New.from_ {n n' : Nat} {W : World} {v : Value} {xs : List Nat} (h : New n W v xs) (hn : n' ≤ n) : New n' W v xs := by
  obtain ⟨S, h1, h2, h3⟩ := h
  exact ⟨S, h1, h2, h3.imp id fun h => Nat.le_trans hn h⟩
theorem new_nil {n b : Nat} {W : World} (h : b < W.heap.size) : New n W (.slice none 0 0) [] := ⟨b, .inl ⟨⟨_, _, rfl⟩, rfl⟩, h, .inl rfl⟩
set_option maxHeartbeats 1000000 in
theorem divmod_less (ba bb : Nat) (va vb : Value) (xs ys al bl : List Nat) (hxs : xs.length ≤ 4398046511104) (hys : ys.length ≤ 4398046511104) (hx : Low 18446744073709551616 xs) (hy : Low 18446744073709551616 ys) (ha : cutz xs = al) (hb : cutz ys = bl) (hb0 : 0 < bl.length) (hab : al.length < bl.length)
    (w : World) (hba : ba < w.heap.size) (hbb : bb < w.heap.size) (hIa : RdAt ba w va xs) (hIb : RdAt bb w vb ys) :
    Calls Try.prog 153 #[va, vb] w fun e W' => ∃ q r, e = .returned (.tuple #[q, r, .int .i64 0]) ∧ New w.heap.size W' q [] ∧ New w.heap.size W' r (digs 18446744073709551616 (val 18446744073709551616 al)) ∧ Below w.heap.size w W' := by
  have hla : al.length ≤ 4398046511104 := by rw [← ha]; exact Nat.le_trans (cutz_length xs) hxs
  have hxa : Low 18446744073709551616 al := by rw [← ha]; exact cutz_low hx
  have hta := ntrim_calls ba va xs (by omega) hx w hba hIa
  have htb := fun (u : World) (h : bb < u.heap.size) (hr : RdAt bb u vb ys) => ntrim_calls bb vb ys (by omega) hy u h hr
  rw [ha] at hta
  rw [hb] at htb
  have HTA := Lib.hid hta
  have HTB := Lib.hid htb
  have hd0 : ((bl.length : Int) == 0) = false := beq_eq_false_iff_ne.2 (by omega)
  have hd1 : decide (al.length < bl.length) = true := decide_eq_true (by omega)
  obtain ⟨aa, ca, rfl, _, _⟩ := hIa.slice
  obtain ⟨ab, cb, rfl, _, _⟩ := hIb.slice
  clear hta htb ha hb
  go_enter Try.func153, Try.ntmps153
  go_wp2_with fail
  refine HTA.out.mono ?_
  rintro e w1 ⟨v1, rfl, hr1, hb1⟩
  have hIb1 := hIb.kept (hb1.block bb hbb)
  have hbb1 := Nat.lt_of_lt_of_le hbb hb1.size
  go_wp2_with fail
  refine (HTB.out w1 hbb1 hIb1).mono ?_
  rintro e w2 ⟨v2, rfl, hr2, hb2⟩
  have hba1 := Nat.lt_of_lt_of_le hba hb1.size
  have hr1 := hr1.kept (hb2.block ba hba1)
  have hba2 := Nat.lt_of_lt_of_le hba1 hb2.size
  have B2 := below_both hb1 hb2
  have hN : Num w2 v1 (val 18446744073709551616 al) 4398046511104 := ⟨al, ⟨ba, hba2, hr1⟩, hxa, rfl, hla⟩
  obtain ⟨a1, c1, rfl, _, _⟩ := hr1.slice
  obtain ⟨a2, c2, rfl, _, _⟩ := hr2.slice
  clear hr1 hr2 HTA HTB hIa hIb hIb1
  go_wp2_with fail
  refine (norm_num hN (by omega)).mono ?_
  rintro e w3 ⟨v3, rfl, _, n3, b3⟩
  go_wp2_with fail
  go_ret3
  exact ⟨_, _, rfl, new_nil (Nat.lt_of_lt_of_le hba2 b3.size), New.from_ n3 B2.size, below_both B2 b3⟩
set_option maxHeartbeats 1000000 in
theorem divmod_zero {w : World} {va vb : Value} {X i j : Nat} (hA : Num w va X i) (hB : Num w vb 0 j) (hi : i ≤ 4398046511104) (hj : j ≤ 4398046511104) :
    Calls Try.prog 153 #[va, vb] w fun e W' => e = .returned (.tuple #[.slice none 0 0, .slice none 0 0, .int .i64 7]) ∧ Below w.heap.size w W' := by
  obtain ⟨xs, ⟨ba, hba, hIa⟩, hx, _, hxl⟩ := hA
  obtain ⟨ys, ⟨bb, hbb, hIb⟩, hy, hy0, hyl⟩ := hB
  have hb : cutz ys = [] := by rw [cutz_eq_digs (by decide) hy, hy0, digs_zero]
  have hta := ntrim_calls ba va xs (by omega) hx w hba hIa
  have htb := fun (u : World) (h : bb < u.heap.size) (hr : RdAt bb u vb ys) => ntrim_calls bb vb ys (by omega) hy u h hr
  rw [hb] at htb
  generalize cutz xs = al at hta
  have HTA := Lib.hid hta
  have HTB := Lib.hid htb
  obtain ⟨aa, ca, rfl, _, _⟩ := hIa.slice
  obtain ⟨ab, cb, rfl, _, _⟩ := hIb.slice
  clear hta htb hb hy0
  go_enter Try.func153, Try.ntmps153
  go_wp2_with fail
  refine HTA.out.mono ?_
  rintro e w1 ⟨v1, rfl, hr1, hb1⟩
  have hIb1 := hIb.kept (hb1.block bb hbb)
  have hbb1 := Nat.lt_of_lt_of_le hbb hb1.size
  go_wp2_with fail
  refine (HTB.out w1 hbb1 hIb1).mono ?_
  rintro e w2 ⟨v2, rfl, hr2, hb2⟩
  have B2 := below_both hb1 hb2
  obtain ⟨a1, c1, rfl, _, _⟩ := hr1.slice
  obtain ⟨a2, c2, rfl, _, _⟩ := hr2.slice
  simp only [List.length_nil]
  clear hr1 hr2 HTA HTB hIa hIb hIb1
  go_wp2
  go_ret3
  exact ⟨rfl, B2⟩
theorem divmod_num {w : World} {va vb : Value} {X Y i j : Nat} (hA : Num w va X i) (hB : Num w vb Y j) (hi : i ≤ 4398046511104) (hj : j ≤ 4398046511104) (hY : Y ≠ 0) :
    Calls Try.prog 153 #[va, vb] w fun e W' => ∃ q r, e = .returned (.tuple #[q, r, .int .i64 0]) ∧ New w.heap.size W' q (digs 18446744073709551616 (X / Y)) ∧ New w.heap.size W' r (digs 18446744073709551616 (X % Y)) ∧ Below w.heap.size w W' := by
  obtain ⟨xs, ⟨ba, hba, hIa⟩, hx, rfl, hxl⟩ := hA
  obtain ⟨ys, ⟨bb, hbb, hIb⟩, hy, rfl, hyl⟩ := hB
  have hb0 : 0 < (cutz ys).length := by
    rw [List.length_pos_iff]
    intro h
    have := val_cutz 18446744073709551616 ys
    rw [h] at this
    exact hY this.symm
  rw [← val_cutz 18446744073709551616 xs, ← val_cutz 18446744073709551616 ys]
  by_cases hab : (cutz ys).length ≤ (cutz xs).length
  · exact callsIn_wide.1 (divmod_in 9 (Nat.le_refl _) ba bb va vb xs ys _ _ (by omega) (by omega) hx hy rfl rfl hb0 hab w hba hbb hIa hIb)
  · have hlt := low_length_lt (B := 18446744073709551616) (by decide) (cutz_low hx) (cutz_cutz ys) (show (cutz xs).length < (cutz ys).length by omega)
    rw [Nat.div_eq_of_lt hlt, Nat.mod_eq_of_lt hlt, digs_zero]
    exact divmod_less ba bb va vb xs ys _ _ (by omega) (by omega) hx hy rfl rfl hb0 (by omega) w hba hbb hIa hIb
end Go.Proofs.Ytdcebkhdnhdejaa

/- nat.Add, whose answer may be written; half of it; what Newton's rule reckons. -/
namespace Go.Proofs.Ytdcebkhdnhdejaa
open Go.RowKit Go.Shelf

theorem num_word (W : World) (x : Nat) (hx : x < 18446744073709551616) : Num (W.alloc (.cells #[.int .u64 x] 32)) (.slice (some ⟨W.heap.size, 0, none⟩) 1 1) x 1 :=
  ⟨[x], ⟨W.heap.size, by simp, (Row.new W .u64 32 [x]).rd 1 (by simp)⟩, by intro y hy; simp at hy; omega, by simp [val], by simp⟩
theorem addw_num {w : World} {va vb : Value} {M N i j : Nat} (hA : Num w va M i) (hB : Num w vb N j) (hi : i ≤ 17592186044416) (hj : j ≤ 17592186044416) (h0 : M + N ≠ 0) :
    Calls Try.prog 154 #[va, vb] w fun e W' => ∃ S off cap, e = .returned (.slice (some ⟨S, off, none⟩) (digs 18446744073709551616 (M + N)).length cap) ∧ (digs 18446744073709551616 (M + N)).length ≤ cap ∧ Seg W' S off (digs 18446744073709551616 (M + N)) ∧ w.heap.size ≤ S ∧ Below w.heap.size w W' := by
  obtain ⟨xs, ⟨ba, hba, hIa⟩, hx, rfl, hxl⟩ := hA
  obtain ⟨ys, ⟨bb, hbb, hIb⟩, hy, rfl, hyl⟩ := hB
  refine (callsIn_wide.1 (add_in 8 (Nat.le_refl _) ba bb va vb xs ys (by omega) (by omega) hx hy w hba hbb hIa hIb)).mono ?_
  rintro e W' ⟨v, S, rfl, h2, h3, h4, h5, zs, h6⟩
  have hpos : 0 < (digs 18446744073709551616 (val 18446744073709551616 xs + val 18446744073709551616 ys)).length := by rw [digs_pos (by decide) h0]; simp
  obtain ⟨off, cap, rfl, hc, hs⟩ := Wb.seg (W := W') (S := S) ⟨_, h6⟩ h4 hpos
  exact ⟨S, off, cap, rfl, hc, hs, h2, h5⟩
theorem half_num {w : World} {S off cap : Nat} {V n0 : Nat} (hS : Seg w S off (digs 18446744073709551616 V)) (hc : (digs 18446744073709551616 V).length ≤ cap) (hl : (digs 18446744073709551616 V).length ≤ 17592186044416) (hn : n0 ≤ S) :
    Calls Try.prog 155 #[.slice (some ⟨S, off, none⟩) (digs 18446744073709551616 V).length cap, .int .i64 1] w fun e W' => ∃ v, e = .returned v ∧ New n0 W' v (digs 18446744073709551616 (V / 2)) ∧ Off S w W' := by
  have h := lower_calls S off cap (digs 18446744073709551616 V) 1 hl hc (by decide) (digs_low (by decide) V) w hS
  rw [val_digs (by decide)] at h
  refine h.mono ?_
  rintro e W' ⟨v, he, hr, hw, hO⟩
  exact ⟨v, he, ⟨S, hr, hw.lt, .inr hn⟩, hO⟩
/-- Newton's rule: a guess is not below the root; one that is followed by one not less is the root -/
def nwt (X G : Nat) : Nat := (G + X / G) / 2
theorem nwt_above {X G : Nat} (hG : G ≠ 0) : X < (nwt X G + 1) * (nwt X G + 1) := by
  have h1 : X < (X / G + 1) * G := by
    have := Nat.div_add_mod X G
    have := Nat.mod_lt X (Nat.pos_of_ne_zero hG)
    rw [Nat.add_mul, Nat.one_mul, Nat.mul_comm]
    omega
  have h2 : G + (X / G + 1) ≤ 2 * (nwt X G + 1) := by unfold nwt; omega
  generalize nwt X G + 1 = n at *
  generalize X / G + 1 = q at *
  have h3 : (G + q) * (G + q) ≤ (2 * n) * (2 * n) := Nat.mul_le_mul h2 h2
  have h4 : 4 * (q * G) ≤ (G + q) * (G + q) := by
    rcases Nat.le_total G q with h | h
    · obtain ⟨d, rfl⟩ := Nat.exists_eq_add_of_le h
      simp only [Nat.add_mul, Nat.mul_add]
      rw [Nat.mul_comm d G]
      have := Nat.zero_le (d * d)
      omega
    · obtain ⟨d, rfl⟩ := Nat.exists_eq_add_of_le h
      simp only [Nat.add_mul, Nat.mul_add]
      rw [Nat.mul_comm d q]
      have := Nat.zero_le (d * d)
      omega
  have h5 : (2 * n) * (2 * n) = 4 * (n * n) := by rw [Nat.mul_assoc, Nat.mul_left_comm n, ← Nat.mul_assoc]
  omega
theorem nwt_pos {X G : Nat} (hX : X ≠ 0) (hG : G ≠ 0) : nwt X G ≠ 0 := by
  intro h
  have := nwt_above (X := X) hG
  rw [h] at this
  omega
theorem nwt_root {X G : Nat} (_hG : G ≠ 0) (h : G ≤ nwt X G) : G * G ≤ X := by
  have h1 : G ≤ X / G := by unfold nwt at h; omega
  exact Nat.le_trans (Nat.mul_le_mul_right G h1) (Nat.div_mul_le_self X G)
theorem guess_first (X : Nat) : X < (2 ^ ((nbits X + 1) / 2) + 1) * (2 ^ ((nbits X + 1) / 2) + 1) := by
  have h1 := nbits_lt X
  have h2 : 2 ^ nbits X ≤ 2 ^ ((nbits X + 1) / 2) * 2 ^ ((nbits X + 1) / 2) := by
    rw [← Nat.pow_add]
    exact Nat.pow_le_pow_right (by decide) (by omega)
  generalize 2 ^ ((nbits X + 1) / 2) = g at *
  rw [Nat.add_mul, Nat.mul_add]
  omega
/-- a root is one alone -/
theorem root_one {X r s : Nat} (h1 : r * r ≤ X) (h2 : X < (r + 1) * (r + 1)) (h3 : s * s ≤ X) (h4 : X < (s + 1) * (s + 1)) : r = s := by
  rcases Nat.lt_trichotomy r s with h | h | h
  · have := Nat.mul_le_mul (show r + 1 ≤ s from h) (show r + 1 ≤ s from h); omega
  · exact h
  · have := Nat.mul_le_mul (show s + 1 ≤ r from h) (show s + 1 ≤ r from h); omega
end Go.Proofs.Ytdcebkhdnhdejaa

/- natdiv.guesses: numbers that fall by Newton's rule. -/
namespace Go.Proofs.Ytdcebkhdnhdejaa
open Go.RowKit Go.Shelf

attribute [local go_sem] Oper.semAt_some

theorem guesses_in (F : Fence) (n : Nat) (hf : F.fn 147) (hro : F.round = none) (a : Option Addr) (len cap : Nat) (w : World) :
    CallsIn F n Try.prog 147 #[.slice a len cap] w fun e w' => e = .returned (.func (.func 150) #[] #[.pointer (some ⟨w.heap.size, 0, none⟩)]) ∧ w' = w.alloc (.cells #[.slice a len cap] 22) := by
  refine callsIn_of_wp Try.func147 rfl hf ?_ hro
  simp only [Try.ntmps147, List.size_toArray, List.length_cons, List.length_nil, Nat.reduceAdd, Nat.reduceSub, Array.replicate_succ, Array.replicate_zero, List.push_toArray, List.append_toArray, List.nil_append, List.cons_append]
  gi_wp2
  go_ret
  exact ⟨rfl, rfl⟩
theorem below_drewW (W : World) : Below W.heap.size W W.drew := (Below.refl _ W).drew

/-- how the guesses end: there was none, of 0; or the last one is the root -/
def GEnd (X nb : Nat) (K : Value → Nat → World → Prop) (W V : World) : Prop := (X = 0 ∧ Below W.heap.size W V) ∨ ∃ v G, K v G V ∧ New nb V v (digs 18446744073709551616 G) ∧ G * G ≤ X ∧ X < (G + 1) * (G + 1)
set_option maxRecDepth 100000 in
set_option maxHeartbeats 4000000 in
theorem guesses_st (n : Nat) (hn : 2 ≤ n) (l Ba nb X i : Nat) (a : Option Addr) (len cap : Nat) (hi : i ≤ 1099511627776) (J : World → Prop) (K : Value → Nat → World → Prop) (Xp : World → Prop) (Z Xz : Code → World → Prop)
    (hJc : ∀ W, J W → W.cell? ⟨Ba, 0, none⟩ = some (.slice a len cap)) (hJn : ∀ W, J W → Num W (.slice a len cap) X i) (hJB : ∀ W W', J W → Below W.heap.size W W' → J W') (hKB : ∀ v G W W', K v G W → Below W.heap.size W W' → K v G W') (hXB : ∀ W W', Xp W → Below W.heap.size W W' → Xp W')
    (hJs : ∀ W, J W → nb ≤ W.heap.size)
    (hY : ∀ v G U, J U → New nb U v (digs 18446744073709551616 G) → G ≠ 0 → X < (G + 1) * (G + 1) → Xp U → YieldAt Fence.wide (n - 1) Try.prog l #[v] U fun e V => (e = .returned (.bool true) ∧ (J V ∧ New nb V v (digs 18446744073709551616 G) ∧ K v G V) ∧ Xp V) ∨ (e = .returned (.bool false) ∧ ∃ c, Z c V ∧ Xz c V))
    (W : World) (hJ : J W) (hX : Xp W) :
    CallsIn Fence.wide n Try.prog 150 #[.func (.yield l) #[] #[], .pointer (some ⟨Ba, 0, none⟩)] W fun e V => (∃ v, e = .returned v) ∧ ((GEnd X nb K W V ∧ J V ∧ Xp V) ∨ ∃ c, Z c V ∧ Xz c V) := by
  have h1 : 1 ≤ n := by omega
  have h00 := hJc W hJ
  have hN := hJn W hJ
  have hXl := hN.lt
  have hbits : nbits X ≤ 64 * i := nbits_le (by rw [Nat.pow_mul]; exact hXl)
  by_cases h0 : X = 0
  · subst h0
    have hb0 : Calls Try.prog 151 #[.slice a len cap] W fun e W' => e = .returned (.int .i64 0) ∧ Below W.heap.size W W' := bits_num hN (by omega)
    refine callsIn_of_wp Try.func150 rfl trivial ?_ rfl
    simp only [Try.ntmps150, List.size_toArray, List.length_cons, List.length_nil, Nat.reduceAdd, Nat.reduceSub, Array.replicate_succ, Array.replicate_zero, List.push_toArray, List.append_toArray, List.nil_append, List.cons_append]
    gi_wp2_with fail
    refine ⟨trivial, ?_⟩
    gi_at_call 151
    refine (callsIn_wide.2 hb0).mono ?_
    rintro e w1 ⟨rfl, b1⟩
    gi_wp2
    refine bodyPost_ret (results_none rfl _ _ _) rfl ?_
    exact ⟨⟨_, rfl⟩, .inl ⟨.inl ⟨rfl, b1⟩, hJB _ _ hJ b1, hXB _ _ hX b1⟩⟩
  · have hbp := nbits_bounds h0
    have hne : ((nbits X : Int) == 0) = false := beq_eq_false_iff_ne.2 (by omega)
    have hfirst := guess_first X
    have hbn := bits_num hN (by omega)
    obtain ⟨m, hm⟩ : ∃ m, m = (nbits X + 1) / 2 := ⟨_, rfl⟩
    rw [← hm] at hfirst
    have hmi : m ≤ 32 * i + 1 := by omega
    have hq : ((nbits X : Int) + 1) / 2 = (m : Int) := by omega
    have hb1' : (nbits X : Int) ≤ 70368744177664 := by omega
    have HB := Lib.hid hbp
    clear hm hbits hbp
    generalize nbits X = nx at *
    refine callsIn_of_wp Try.func150 rfl trivial ?_ rfl
    simp only [Try.ntmps150, List.size_toArray, List.length_cons, List.length_nil, Nat.reduceAdd, Nat.reduceSub, Array.replicate_succ, Array.replicate_zero, List.push_toArray, List.append_toArray, List.nil_append, List.cons_append]
    gi_wp2_with fail
    refine ⟨trivial, ?_⟩
    gi_at_call 151
    refine (callsIn_wide.2 hbn).mono ?_
    rintro e w1 ⟨rfl, b1⟩
    clear hbn h00
    gi_wp2_with fail
    have hw1 := num_word w1 1 (by decide)
    have b2 : Below w1.heap.size w1 (w1.alloc (.cells #[.int .u64 ((1 : Nat) : Int)] 32)) := (Below.refl _ w1).alloc (Nat.le_refl _) _
    have B2 := below_both b1 b2
    refine ⟨trivial, ?_⟩
    gi_at_call 152
    refine (callsIn_wide.2 (raise_num hw1 (m := m) (by omega) (by omega))).mono ?_
    rintro e w2 ⟨v, rfl, nv, b3⟩
    gi_wp2_with fail
    have B3 := below_both B2 b3
    have hJ2 := hJB _ _ hJ B3
    have hX2 := hXB _ _ hX B3
    rw [Nat.one_mul] at nv
    have nv := nv.from_ (Nat.le_trans (hJs _ hJ) B2.size)
    have hG0 : 2 ^ m ≠ 0 := Nat.ne_of_gt (Nat.pow_pos (by decide))
    have hGl : 2 ^ m < 18446744073709551616 ^ (i + 1) := by
      rw [show 18446744073709551616 = 2 ^ 64 from rfl, ← Nat.pow_mul]
      exact Nat.pow_lt_pow_right (by decide) (by omega)
    generalize 2 ^ m = G0 at *
    clear hw1 b1 b2 b3 B2 hq hne HB hN
    gi_loopw [4] (fun g wr => ∃ G : Nat, New nb wr g (digs 18446744073709551616 G) ∧ G ≠ 0 ∧ X < (G + 1) * (G + 1) ∧ G < 18446744073709551616 ^ (i + 1) ∧ J wr ∧ Xp wr) (fun g wr => numAt wr g)
    case atStart => exact ⟨G0, nv, hG0, hfirst, hGl, hJ2, hX2⟩
    case round =>
      obtain ⟨G, nG, hGz, hGX, hGi, hJr, hXr⟩ := hrel
      obtain ⟨fn, tmps, assign, body, hy, hR⟩ := hY _ G wr hJr nG hGz hGX hXr
      try dsimp only at hy
      have hnwl : nwt X G < 18446744073709551616 ^ (i + 1) := by
        have h1 : 18446744073709551616 ^ i ≤ 18446744073709551616 ^ (i + 1) := Nat.pow_le_pow_right (by decide) (by omega)
        have h2 := Nat.div_le_self X G
        unfold nwt
        omega
      have hql : X / G < 18446744073709551616 ^ i := Nat.lt_of_le_of_lt (Nat.div_le_self X G) hXl
      have hsl : (digs 18446744073709551616 (G + X / G)).length ≤ 17592186044416 := by
        have h1 : G + X / G < 18446744073709551616 ^ (i + 1 + i + 1) := pow_add_lt hGi hql
        have := digs_length (by decide) h1
        omega
      have hnw1 := nwt_above (X := X) hGz
      have hnw2 := nwt_pos (X := X) h0 hGz
      have H1 := Lib.hid hnwl
      have H2 := Lib.hid hql
      have H3 := Lib.hid hsl
      have H4 := Lib.hid hnw1
      have H5 := Lib.hid hnw2
      have H6 := Lib.hid hGX
      have H7 := Lib.hid hGi
      clear hnwl hql hsl hnw1 hnw2 hGX hGi
      gi_wp2
      refine hR.mono ?_
      rintro e W3 (⟨rfl, ⟨hJ3, n3, hK3⟩, hX3⟩ | ⟨rfl, hZ3⟩)
      · have hc3 := hJc W3 hJ3
        gi_wp2_with fail
        refine ⟨trivial, ?_⟩
        gi_at_call 153
        refine (callsIn_wide.2 (divmod_num (hJn W3 hJ3) (n3.num H7.out) (by omega) (by omega) hGz)).mono ?_
        rintro e W4 ⟨q, r, rfl, nq, nr, b4⟩
        gi_wp2_with fail
        refine ⟨trivial, ?_⟩
        gi_at_call 154
        refine (callsIn_wide.2 (addw_num ((n3.behind b4).num H7.out) (nq.num H2.out) (by omega) (by omega) (by have := Nat.pos_of_ne_zero hGz; exact Nat.ne_of_gt (Nat.lt_of_lt_of_le this (Nat.le_add_right _ _))))).mono ?_
        rintro e W5 ⟨S, off, cap', rfl, hcap, hseg, hS, b5⟩
        gi_wp2_with fail
        refine ⟨trivial, ?_⟩
        gi_at_call 155
        refine (callsIn_wide.2 (half_num (n0 := nb) hseg hcap H3.out (Nat.le_trans (Nat.le_trans (hJs _ hJ3) b4.size) hS))).mono ?_
        rintro e W6 ⟨v', rfl, nv', hO⟩
        have nv' : New nb W6 v' (digs 18446744073709551616 (nwt X G)) := nv'
        have b6 := Off.to_below b5 hO hS b5.size
        have b46 := below_both b4 b6
        have hJ6 := hJB _ _ hJ3 b46
        have hX6 := hXB _ _ hX3 b46
        have hK6 := hKB _ _ _ _ hK3 b46
        have n6 := n3.behind b46
        clear hseg hO b5 b6 nq nr hc3 hy hR
        by_cases hge : G ≤ nwt X G
        · obtain ⟨c, hc, hc0⟩ : ∃ c, Hid (cmpN (nwt X G) G = c) ∧ 0 ≤ c := by
            refine ⟨_, Lib.hid rfl, ?_⟩
            unfold cmpN
            rw [if_neg (by omega)]
            split <;> omega
          have HGE := Lib.hid hge
          clear hge
          gi_wp2_with fail
          refine ⟨trivial, ?_⟩
          gi_at_call 156
          refine (callsIn_wide.2 (cmp_is (nv'.num H1.out) (n6.num H7.out) (by omega) (by omega) hc.out)).mono ?_
          rintro e W7 ⟨rfl, b7⟩
          have hJ7 := hJB _ _ hJ6 b7
          have hX7 := hXB _ _ hX6 b7
          have hK7 := hKB _ _ _ _ hK6 b7
          have n7 := n6.behind b7
          gi_wp2
          refine bodyPost_ret (results_none rfl _ _ _) rfl ?_
          exact ⟨⟨_, rfl⟩, .inl ⟨.inr ⟨_, G, hK7, n7, nwt_root hGz HGE.out, H6.out⟩, hJ7, hX7⟩⟩
        · have hlt : nwt X G < G := by omega
          have hc : Hid (cmpN (nwt X G) G = -1) := Lib.hid (cmpN_lt hlt)
          have HLT := Lib.hid hlt
          clear hge hlt
          gi_wp2_with fail
          refine ⟨trivial, ?_⟩
          gi_at_call 156
          refine (callsIn_wide.2 (cmp_is (nv'.num H1.out) (n6.num H7.out) (by omega) (by omega) hc.out)).mono ?_
          rintro e W7 ⟨rfl, b7⟩
          have hJ7 := hJB _ _ hJ6 b7
          have hX7 := hXB _ _ hX6 b7
          have nv7 := nv'.behind b7
          gi_wp2
          go_roundw
          case rel => exact ⟨nwt X G, nv7, H5.out, H4.out, H1.out, hJ7, hX7⟩
          case measure =>
            show numAt W7 v' < numAt wr _
            rw [nv7.numAt, nG.numAt]
            exact HLT.out
      · gi_wp2
        go_end0
        exact ⟨⟨_, rfl⟩, .inr hZ3⟩
end Go.Proofs.Ytdcebkhdnhdejaa

/- natdiv.Sqrt: the greatest number whose square is at most another one. -/
namespace Go.Proofs.Ytdcebkhdnhdejaa
open Go.RowKit Go.Shelf

attribute [local go_sem] Oper.semAt_some

/-- a list that is read stays as it is, whatever the loop's own blocks do -/
theorem steady_rd {B₀ S : Nat} {v : Value} {xs : List Nat} : Steady B₀ (fun W => S < W.heap.size ∧ RdAt S W v xs) := fun _ W W' row ⟨hl, hr⟩ hg hrow => by
  refine ⟨Nat.lt_of_lt_of_le hl hg.size, ?_⟩
  rcases hr with ⟨e, rfl⟩ | ⟨off, cap, rfl, hc, hcell⟩
  · exact .inl ⟨e, rfl⟩
  · by_cases h0 : xs.length = 0
    · exact .inr ⟨off, cap, rfl, hc, fun j hj => by omega⟩
    · have h1 := hcell 0 (by omega)
      obtain ⟨o, ho, hoc⟩ := cells_of_cell h1
      dsimp only at ho
      have hk : W'.heap[S]? = W.heap[S]? := hg.block S hl (fun e => by
        obtain ⟨_, o', ho', hc'⟩ := hrow S e.symm
        rw [ho] at ho'
        cases ho'
        rw [hoc] at hc'
        cases hc')
      exact RdAt.kept (.inr ⟨off, cap, rfl, hc, hcell⟩) hk
theorem steady_new {B₀ n : Nat} {v : Value} {xs : List Nat} : Steady B₀ (fun W => New n W v xs) := fun u W W' row ⟨S, h1, h2, h3⟩ hg hrow => by
  obtain ⟨k1, k2⟩ := steady_rd u W W' row ⟨h2, h1⟩ hg hrow
  exact ⟨S, k2, k1, h3⟩
theorem steady_num {B₀ : Nat} {v : Value} {N k : Nat} : Steady B₀ (fun W => Num W v N k) := fun u W W' row ⟨xs, ⟨b, h1, h2⟩, h3⟩ hg hrow => by
  obtain ⟨k1, k2⟩ := steady_rd u W W' row ⟨h1, h2⟩ hg hrow
  exact ⟨xs, ⟨b, k1, k2⟩, h3⟩
theorem New.put_ {n : Nat} {W : World} {v : Value} {xs : List Nat} (h : New n W v xs) {p : Addr} (hp : p.block < n) (u : Value) : New n (W.setCell p u) v xs := by
  obtain ⟨S, h1, h2, h3⟩ := h
  have hz : (W.setCell p u).heap.size = W.heap.size := by simp [World.setCell]
  refine ⟨S, ?_, by omega, h3⟩
  rcases h3 with rfl | h3
  · rcases h1 with h1 | ⟨_, _, e, _⟩
    · exact .inl h1
    · cases e
  · exact h1.kept (Below.heap_setCell _ _ _ _ (by omega))
theorem New.keep_ {n : Nat} {W W' : World} {v : Value} {xs : List Nat} (h : New n W v xs) (hb : Below W.heap.size W W') : New n W' v xs := h.behind hb

theorem New.away {n D : Nat} {W : World} {v : Value} {xs : List Nat} {o o' : Obj} (h : New n W v xs) (hD : W.heap[D]? = some o) (ho : o.isCells = false := by rfl) : New n (W.putObj D o') v xs := by
  obtain ⟨S, h1, h2, h3⟩ := h
  refine ⟨S, ?_, by simp; omega, h3⟩
  by_cases hS : S = D
  · subst hS
    rcases h1 with h1 | ⟨off, cap, e, hc, hcell⟩
    · exact .inl h1
    · by_cases h0 : xs.length = 0
      · exact .inr ⟨off, cap, e, hc, fun j hj => by omega⟩
      · obtain ⟨o2, ho2, hoc⟩ := cells_of_cell (hcell 0 (by omega))
        dsimp only at ho2
        rw [hD] at ho2
        cases ho2
        rw [ho] at hoc
        cases hoc
  · exact h1.kept (World.putObj_heap_other hS)
theorem steady_size {B₀ n : Nat} : Steady B₀ (fun W => n ≤ W.heap.size) := fun _ _ _ _ h hg _ => Nat.le_trans h hg.size
theorem _root_.Go.Boxed.behind_ {W W' : World} {B : Nat} {t : TypeId} {v : Value} (h : Boxed W B t v) (hb : Below W.heap.size W W') : Boxed W' B t v := (hb.block B h.lt).trans h
/-- what holds all the while -/
def sqJ (X i : Nat) (a : Option Addr) (len cap : Nat) (w : World) (W : World) : Prop := (Boxed W (w.heap.size + 1) 22 (.slice a len cap) ∧ Num W (.slice a len cap) X i ∧ Below w.heap.size w W) ∧ (∃ v, Boxed W w.heap.size 22 v) ∧ w.heap.size + 2 ≤ W.heap.size
theorem sqJ_steady (X i : Nat) (a : Option Addr) (len cap : Nat) (w : World) {B₀ : Nat} (h : w.heap.size ≤ B₀) : Steady B₀ (sqJ X i a len cap w) :=
  (steady_boxed.and (steady_num.and (steady_below h (Nat.le_refl _)))).and ((Steady.ex_ fun _ => steady_boxed).and steady_size)
theorem sqJ.behind {X i : Nat} {a : Option Addr} {len cap : Nat} {w W W' : World} (h : sqJ X i a len cap w W) (hb : Below W.heap.size W W') : sqJ X i a len cap w W' := by
  obtain ⟨⟨h1, h2, h3⟩, ⟨v, h4⟩, h5⟩ := h
  exact ⟨⟨h1.behind_ hb, h2.behind hb, h3.trans (hb.mono h3.size)⟩, ⟨v, h4.behind_ hb⟩, Nat.le_trans h5 hb.size⟩
/-- the root so far lies in its box -/
def sqK (w : World) (v : Value) (_G : Nat) (W : World) : Prop := Boxed W w.heap.size 22 v
/-- the root, at the end -/
def sqE (X i : Nat) (a : Option Addr) (len cap : Nat) (w : World) (W : World) : Prop := ∃ s : Value × Nat, (Boxed W w.heap.size 22 s.1 ∧ New (w.heap.size + 2) W s.1 (digs 18446744073709551616 s.2) ∧ (s.2 * s.2 ≤ X ∧ X < (s.2 + 1) * (s.2 + 1))) ∧ sqJ X i a len cap w W
theorem sqE_steady (X i : Nat) (a : Option Addr) (len cap : Nat) (w : World) {B₀ : Nat} (h : w.heap.size ≤ B₀) : Steady B₀ (sqE X i a len cap w) :=
  Steady.ex_ fun s => (steady_boxed.and (steady_new.and (steady_pure (p := s.2 * s.2 ≤ X ∧ X < (s.2 + 1) * (s.2 + 1))))).and (sqJ_steady X i a len cap w h)
def sqA (X i : Nat) (a : Option Addr) (len cap : Nat) (w : World) (s : Value × Nat) (W : World) : Prop := sqJ X i a len cap w W ∧ New (w.heap.size + 2) W s.1 (digs 18446744073709551616 s.2) ∧ sqK w s.1 s.2 W
def sqB (X i : Nat) (a : Option Addr) (len cap : Nat) (w : World) (s : Value × Nat) (W : World) : Prop := sqJ X i a len cap w W ∧ New (w.heap.size + 2) W s.1 (digs 18446744073709551616 s.2)

set_option maxRecDepth 100000 in
set_option maxHeartbeats 4000000 in
theorem sqrt_in (n : Nat) (hn : 4 ≤ n) (va : Value) (X i : Nat) (hi : i ≤ 1099511627776) (w : World) (hA : Num w va X i) :
    CallsIn Fence.wide n Try.prog 144 #[va] w fun e W' => ∃ q r G, e = .returned (.tuple #[q, r]) ∧ (G * G ≤ X ∧ X < (G + 1) * (G + 1)) ∧ New w.heap.size W' q (digs 18446744073709551616 G) ∧ New w.heap.size W' r (digs 18446744073709551616 (X - G * G)) ∧ Below w.heap.size w W' := by
  have h1 : 1 ≤ n := by omega
  have hmx := follows
  have hXl := hA.lt
  obtain ⟨a, len, cap, rfl⟩ := hA.slice
  refine callsIn_of_wp_marks Try.func144 rfl trivial ?_ rfl
  simp only [Try.ntmps144, List.size_toArray, List.length_cons, List.length_nil, Nat.reduceAdd, Nat.reduceSub, Array.replicate_succ, Array.replicate_zero, List.push_toArray, List.append_toArray, List.nil_append, List.cons_append]
  gi_wp2_with (refine ⟨trivial, ?_⟩; gi_at_call 147; refine (guesses_in Fence.wide (n - 1) trivial rfl _ _ _ _).mono ?_; rintro e w' ⟨rfl, rfl⟩)
  have b1 := (Boxed.new w 22 (.slice none 0 0)).alloc (.cells #[.slice a len cap] 22)
  have b2 := Boxed.new (w.alloc (.cells #[.slice none 0 0] 22)) 22 (.slice a len cap)
  have hB0 : Below w.heap.size w ((w.alloc (.cells #[.slice none 0 0] 22)).alloc (.cells #[.slice a len cap] 22)) := ((Below.refl _ w).alloc (Nat.le_refl _) _).alloc (by simp) _
  simp only [World.size_alloc] at b2
  have hW0 : ((w.alloc (.cells #[.slice none 0 0] 22)).alloc (.cells #[.slice a len cap] 22)).heap.size = w.heap.size + 1 + 1 := by simp
  have hA0 := hA.behind hB0
  generalize (w.alloc (.cells #[.slice none 0 0] 22)).alloc (.cells #[.slice a len cap] 22) = W0 at *
  have hJ0 : sqJ X i a len cap w W0 := ⟨⟨b2, hA0, hB0⟩, ⟨_, b1⟩, by omega⟩
  have hww : w.heap.size ≤ W0.heap.size := by omega
  refine wpIn_range (σ := Value × Nat) rfl h1 (gf := 150) (lb := #[.pointer (some ⟨w.heap.size + 1, 0, none⟩)]) rfl trivial (enters_of Try.func150 (by kernel_rfl) rfl)
    (encs := fun s => #[s.1]) (fun _ => rfl) (fun W => sqJ X i a len cap w W ∧ Boxed W w.heap.size 22 (.slice none 0 0)) (sqA X i a len cap w) (sqB X i a len cap w) (sqE X i a len cap w) (fun _ _ => False)
    ((sqJ_steady X i a len cap w hww).and steady_boxed) (fun _ => (sqJ_steady X i a len cap w hww).and (steady_new.and steady_boxed)) (fun _ => (sqJ_steady X i a len cap w hww).and steady_new) (sqE_steady X i a len cap w hww) (fun _ => steady_pure) ⟨hJ0, b1⟩ ?seq ?a1 ?assign ?body ?done ?stop
  case seq =>
    intro l Xp Xz W hl hXs hI0 hX hY
    obtain ⟨hJ, hb⟩ := hI0
    have hkeep : ∀ U V, Xp U → Below U.heap.size U V → Xp V := fun U V h hb => hXs U V h ⟨hb.size, fun i o _ ho _ => (hb.block i (Array.getElem?_eq_some_iff.1 ho).1).trans ho⟩
    refine (guesses_st (n - 1) (by omega) l (w.heap.size + 1) (w.heap.size + 2) X i a len cap hi (sqJ X i a len cap w) (sqK w) Xp (fun _ _ => False) Xz (fun W h => h.1.1.cell) (fun W h => h.1.2.1) (fun W W' h hb => h.behind hb) (fun v G W W' h hb => Boxed.behind_ (show Boxed W w.heap.size _ v from h) hb) hkeep (fun W h => h.2.2) (fun v G U hJ hN _ _ hx => hY (v, G) U ⟨hJ, hN⟩ hx) W hJ hX).mono ?_
    rintro e V ⟨hv, (⟨hg, hJV, hXV⟩ | h)⟩
    · refine ⟨hv, .inl ⟨?_, hXV⟩⟩
      rcases hg with ⟨rfl, hb1⟩ | ⟨v, G, hK, hN, h3, h4⟩
      · exact ⟨(.slice none 0 0, 0), ⟨hb.behind_ hb1, ⟨0, by rw [digs_zero]; exact .inl ⟨⟨_, _, rfl⟩, rfl⟩, by have := hJV.2.2; omega, .inl rfl⟩, by simp⟩, hJV⟩
      · exact ⟨(v, G), ⟨hK, hN, h3, h4⟩, hJV⟩
    · exact ⟨hv, .inr h⟩
  case assign =>
    intro l s W K hK
    gi_wp2
    exact hK
  case body =>
    rintro l ⟨v, G⟩ W hl ⟨⟨⟨c1, c2, c3⟩, ⟨u, c4⟩, c5⟩, hN⟩
    dsimp only at *
    obtain ⟨ra, rl, rc, rfl⟩ : ∃ a l c, v = .slice a l c := by
      obtain ⟨a, c, e, _⟩ := hN.slice
      exact ⟨a, _, c, e⟩
    have k4 := c4.cell
    have g4 := c4.frozen
    have d1 := c1.far (p := ⟨w.heap.size, 0, none⟩) (by (try dsimp only); omega) (.slice ra rl rc)
    have d4 := c4.set (.slice ra rl rc)
    have d3 := c3.setCell (p := ⟨w.heap.size, 0, none⟩) (Nat.le_refl _) (.slice ra rl rc)
    have dN := hN.put_ (p := ⟨w.heap.size, 0, none⟩) (by (try dsimp only); omega) (.slice ra rl rc)
    have d2 : Num (W.setCell ⟨w.heap.size, 0, none⟩ (.slice ra rl rc)) (.slice a len cap) X i := (hA.behind d3)
    have dz : w.heap.size + 2 ≤ (W.setCell ⟨w.heap.size, 0, none⟩ (.slice ra rl rc)).heap.size := by simpa [World.setCell] using c5
    gi_wp2
    exact ⟨(KeepsOthers.setCell _ _ _).from _, ⟨⟨d1, d2, d3⟩, ⟨_, d4⟩, dz⟩, dN, d4⟩
  case done =>
    rintro D W hD ⟨⟨v, G⟩, ⟨hb, hN, hG⟩, ⟨⟨c1, c2, c3⟩, _, c5⟩⟩ hK
    dsimp only at *
    obtain ⟨ra, rl, rc, rfl⟩ : ∃ a l c, v = .slice a l c := by
      obtain ⟨a, c, e, _⟩ := hN.slice
      exact ⟨a, _, c, e⟩
    gi_wp2
    refine wpIn_wide.2 ?_
    have hGl : G < 18446744073709551616 ^ i := by
      refine Nat.lt_of_le_of_lt ?_ hXl
      rcases Nat.eq_zero_or_pos G with h0 | h0
      · omega
      · exact Nat.le_trans (Nat.le_mul_of_pos_left G h0) hG.1
    have hds : Hid (dist X (G * G) = X - G * G) := Lib.hid (dist_ge hG.1)
    have HG := Lib.hid hG
    have bd := below_drewW W
    have hv := (hN.num hGl).behind bd
    have hx := c2.behind bd
    have hb1 := hb.behind_ bd
    have hN1 := hN.behind bd
    have hk1 : Hid (W.drew.heap[D]? = some (.deferred (some []))) := Lib.hid hK
    have hcc := hb1.cell
    clear hG hK
    have B0 := c3.trans (bd.mono c3.size)
    have hDW : D < W.drew.heap.size := (Array.getElem?_eq_some_iff.1 hk1.out).1
    have hrd : w.heap.size + 2 ≤ W.drew.heap.size := c5
    go_region_held3 (fun w' => w'.cell? ⟨w.heap.size, 0, none⟩ = some (.slice ra rl rc)) (first | exact hb1.cell | go_keep)
      (first
        | (have _ := B1; go_at_call 148; (with_reducible refine (sub_num hx u2 (by omega) (by omega)).mono ?_); rintro e w2 ⟨r, rfl, -, nr, b2⟩; have hb1 := hb1.behind_ b2; have hN1 := hN1.behind b2; have B2 := below_both B1 b2; have hk2 : Hid (w2.heap[D]? = some (.deferred (some []))) := Lib.hid ((b2.block D hD1).trans hk1.out); clear b2)
        | (go_at_call 149; (with_reducible refine (mul_num hv hv (by omega)).mono ?_); rintro e w1 ⟨v2, rfl, u2, -, b1⟩; have hx := hx.behind b1; have hb1 := hb1.behind_ b1; have hN1 := hN1.behind b1; have B1 := below_both B0 b1; have hk1 : Hid (w1.heap[D]? = some (.deferred (some []))) := Lib.hid ((b1.block D hDW).trans hk1.out); have hD1 := Nat.lt_of_lt_of_le hDW b1.size; have hz1 := b1.size; clear b1))
    gi_wp2
    refine ⟨by simp, .inl ⟨_, _, rfl, run_takeDeferred hk2.out, ?_⟩⟩
    rw [hds.out] at nr
    have hN2 := fun o' => (hN1.from_ (n' := w.heap.size) (by omega)).away (o' := o') hk2.out
    have hr2 := fun o' => (nr.from_ (n' := w.heap.size) (by omega)).away (o' := o') hk2.out
    exact ⟨_, results_tmp2 rfl _ _ _, .slice ra rl rc, r, G, rfl, HG.out, hN2 _, hr2 _, B2.trans (belowK_b (w := w) (Nat.le_refl _) w2 D _ _ (by omega) hk2.out rfl rfl)⟩
  case stop =>
    rintro D c W _ h _
    exact h.elim
theorem sqrt_num {va : Value} {X i : Nat} {w : World} (hA : Num w va X i) (hi : i ≤ 1099511627776) :
    Calls Try.prog 144 #[va] w fun e W' => ∃ q r G, e = .returned (.tuple #[q, r]) ∧ (G * G ≤ X ∧ X < (G + 1) * (G + 1)) ∧ New w.heap.size W' q (digs 18446744073709551616 G) ∧ New w.heap.size W' r (digs 18446744073709551616 (X - G * G)) ∧ Below w.heap.size w W' :=
  callsIn_wide.1 (sqrt_in 4 (Nat.le_refl _) va X i hi w hA)
end Go.Proofs.Ytdcebkhdnhdejaa

/- vernierlaw02.alive. -/
namespace Go.Proofs.Ytdcebkhdnhdejaa
open Go.RowKit Go.Shelf

theorem New.word {n : Nat} {W : World} {v : Value} {x : Nat} (h : New n W v [x]) : ∃ S off cap, v = .slice (some ⟨S, off, none⟩) 1 cap ∧ W.cell? ⟨S, off, none⟩ = some (.int .u64 x) := by
  obtain ⟨S, h1, _⟩ := h
  rcases h1 with ⟨_, h⟩ | ⟨off, c, e, hl, hc⟩
  · cases h
  · exact ⟨S, off, c, e, hc 0 (by simp)⟩
end Go.Proofs.Ytdcebkhdnhdejaa
