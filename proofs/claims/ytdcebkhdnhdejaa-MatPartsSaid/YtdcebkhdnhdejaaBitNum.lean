/- How many bits a number has: plain numbers. -/
import Derived.Test.YtdcebkhdnhdejaaBits
import Derived.Test.YtdcebkhdnhdejaaNum
import Derived.Lib.ItoaNum
namespace Go.Proofs.Ytdcebkhdnhdejaa

def nbits (n : Nat) : Nat := if n = 0 then 0 else n.log2 + 1
theorem nbits_zero : nbits 0 = 0 := rfl
theorem nbits_eq {n k : Nat} (h1 : 2 ^ k ≤ n) (h2 : n < 2 ^ (k + 1)) : nbits n = k + 1 := by
  have hn : n ≠ 0 := by
    have := Nat.two_pow_pos k
    omega
  unfold nbits
  rw [if_neg hn, (Nat.log2_eq_iff hn).2 ⟨h1, h2⟩]
theorem nbits_bounds {n : Nat} (h : n ≠ 0) : 1 ≤ nbits n ∧ 2 ^ (nbits n - 1) ≤ n ∧ n < 2 ^ nbits n := by
  unfold nbits
  rw [if_neg h]
  have := (Nat.log2_eq_iff h (k := n.log2)).1 rfl
  exact ⟨by omega, this.1, this.2⟩
theorem nbits_lt (n : Nat) : n < 2 ^ nbits n := by
  by_cases h : n = 0
  · subst h; simp [nbits]
  · exact (nbits_bounds h).2.2
theorem nbits_le {n k : Nat} (h : n < 2 ^ k) : nbits n ≤ k := by
  by_cases h0 : n = 0
  · subst h0; simp [nbits]
  · obtain ⟨h1, h2, _⟩ := nbits_bounds h0
    have h3 : 2 ^ (nbits n - 1) < 2 ^ k := by omega
    have := (Nat.pow_lt_pow_iff_right (by decide)).1 h3
    omega
theorem nbits_eq_zero {n : Nat} (h : nbits n = 0) : n = 0 := by
  unfold nbits at h
  split at h
  · assumption
  · omega
theorem nbits_half {n : Nat} (h : n ≠ 0) : nbits n = 1 + nbits (n / 2) := by
  by_cases h1 : n / 2 = 0
  · have : n = 1 := by omega
    subst this
    rfl
  · obtain ⟨k1, k2, k3⟩ := nbits_bounds h1
    rw [Nat.add_comm]
    have e : nbits (n / 2) = nbits (n / 2) - 1 + 1 := by omega
    refine nbits_eq ?_ ?_
    · rw [e, Nat.pow_succ]; omega
    · rw [Nat.pow_succ]; omega
theorem bitLen_nbits {x : Nat} (h : x < 18446744073709551616) : Lib.bitLen x = nbits x := by
  by_cases h0 : x = 0
  · subst h0; rfl
  · obtain ⟨h1, h2, h3⟩ := Lib.bitLenAux_bounds 64 x (by simpa using h) h0
    unfold Lib.bitLen
    generalize Lib.bitLenAux 64 x = m at *
    obtain ⟨k, rfl⟩ : ∃ k, m = k + 1 := ⟨m - 1, by omega⟩
    exact (nbits_eq h2 h3).symm
theorem nbits_mul {B p i L r : Nat} (hB : B = 2 ^ p) (hL : L ≠ 0) (hr : r < B ^ i) : nbits (r + B ^ i * L) = p * i + nbits L := by
  obtain ⟨h1, h2, h3⟩ := nbits_bounds hL
  have e : B ^ i = 2 ^ (p * i) := by rw [hB, ← Nat.pow_mul]
  obtain ⟨m, hm⟩ : ∃ m, nbits L = m + 1 := ⟨nbits L - 1, by omega⟩
  rw [hm] at h2 h3 ⊢
  simp only [Nat.add_sub_cancel] at h2
  rw [← Nat.add_assoc]
  refine nbits_eq ?_ ?_
  · rw [Nat.pow_add, ← e]
    have := Nat.mul_le_mul_left (B ^ i) h2
    omega
  · rw [Nat.add_assoc, Nat.pow_add, ← e]
    have := Nat.mul_le_mul_left (B ^ i) (show L + 1 ≤ 2 ^ (m + 1) by omega)
    rw [Nat.mul_add] at this
    omega
/-- the highest digit that is not 0 tells how many bits there are -/
theorem nbits_top {B p : Nat} {xs : List Nat} (hB : B = 2 ^ p) (hlow : Low B xs) {i : Nat} (h : lim xs i ≠ 0) (hz : ∀ j, i < j → lim xs j = 0) : nbits (val B xs) = p * i + nbits (lim xs i) := by
  have hB0 : 0 < B := by rw [hB]; exact Nat.two_pow_pos p
  rw [part_split (k := i + 1) (fun j hj => hz j hj), part]
  exact nbits_mul hB h (part_lt hlow hB0 i)
end Go.Proofs.Ytdcebkhdnhdejaa

/- nat.Bits: how many bits a natural has. -/
namespace Go.Proofs.Ytdcebkhdnhdejaa
open Go.RowKit Go.Shelf

attribute [local go_sem] Oper.semAt_some

set_option maxRecDepth 100000 in
set_option maxHeartbeats 2000000 in
theorem bits_in (n : Nat) (hn : 6 ≤ n) (b : Nat) (v : Value) (xs : List Nat) (hreach : xs.length ≤ 17592186044416) (hlow : Low 18446744073709551616 xs) (w : World) (hb : b < w.heap.size) (hI : RdAt b w v xs) :
    CallsIn Fence.wide n Try.prog 151 #[v] w fun e W' => e = .returned (.int .i64 (nbits (val 18446744073709551616 xs) : Int)) ∧ Below w.heap.size w W' := by
  obtain ⟨a, cap, rfl, hcap, hsome⟩ := hI.slice
  have h1 : 1 ≤ n := by omega
  refine callsIn_of_wp_marks Try.func151 rfl trivial ?_ rfl
  simp only [Try.ntmps151, List.size_toArray, List.length_cons, List.length_nil, Nat.reduceAdd, Nat.reduceSub, Array.replicate_succ, Array.replicate_zero, List.push_toArray, List.append_toArray, List.nil_append, List.cons_append]
  gi_wp2_with (refine ⟨trivial, ?_⟩; gi_at_call 161; refine (down_in Fence.wide (n - 1) trivial rfl _ _ _ _).mono ?_; rintro e w' ⟨rfl, rfl⟩)
  have bR := (Boxed.new w 3 (.int .i64 0)).alloc (.cells #[.slice a xs.length cap] 22)
  have bN := Boxed.new (w.alloc (.cells #[.int .i64 0] 3)) 22 (.slice a xs.length cap)
  have hB0 : Below w.heap.size w ((w.alloc (.cells #[.int .i64 0] 3)).alloc (.cells #[.slice a xs.length cap] 22)) :=
    ((Below.refl _ w).alloc (Nat.le_refl _) _).alloc (by simp) _
  simp only [World.size_alloc] at bR bN
  have hI0 : RdAt b _ (.slice a xs.length cap) xs := hI.kept (hB0.block b hb)
  refine wpIn_rangeFunc_ownG rfl h1 (gf := 171) (lb := #[.pointer (some ⟨w.heap.size + 1, 0, none⟩)]) rfl trivial (enters_of Try.func171 (by kernel_rfl) rfl)
    (down_stops Fence.wide (n - 1) trivial rfl (by omega) (w.heap.size + 1) b _ xs (by omega) _ (by simp) (by simp; omega) bN.cell hI0) Keep.trans (keep_put (by simp) (by simp; omega)) (Below.refl _ _) (fun _ => rfl)
    (fun pre W => ((∀ p ∈ pre, lim xs p.1 = 0) ∧ Boxed W w.heap.size 3 (.int .i64 0)) ∧ Below w.heap.size w W)
    (fun c pre W => (c = .ret ∧ ∃ ini last, pre = ini ++ [last] ∧ (∀ p ∈ ini, lim xs p.1 = 0) ∧ lim xs last.1 ≠ 0 ∧ Boxed W w.heap.size 3 (.int .i64 ((64 * last.1 + nbits (lim xs last.1) : Nat) : Int))) ∧ Below w.heap.size w W)
    (OwnFrom.and (OwnFrom.and (ownFrom_pure _ _) (Own.from (boxed_own _ _ _) _)) (ownFrom_below (Nat.le_refl _) (by simp; omega)))
    (fun c => OwnFrom.and (Own.from (fun s X Y row hs hg hr => by
      obtain ⟨hc, ini, last, e1, e2, e3, e4⟩ := hs
      exact ⟨hc, ini, last, e1, e2, e3, boxed_own (β := Unit) _ _ (fun _ => _) () X Y row e4 hg hr⟩) _) (ownFrom_below (Nat.le_refl _) (by simp; omega)))
    ⟨⟨by simp, bR⟩, hB0⟩
    ?a1 ?assign ?body ?done ?stop
  case assign =>
    intro l x W K hK
    gi_wp2
    exact hK
  case body =>
    rintro l pre x W ⟨⟨hp, bR'⟩, hB⟩ _
    have hx := x.2
    have hd0 : 1 ≤ n - 1 - 1 := by omega
    have hcR := bR'.cell
    have hfR := bR'.frozen
    have hy := lim_lt hlow (by decide) x.1
    by_cases h0 : lim xs x.1 = 0
    · have hd : ((lim xs x.1 : Int) != 0) = false := by simp [h0]
      have H0 := Lib.hid h0
      clear h0
      gi_wp2
      exact ⟨KeepsFrom.refl _ _, Keep.refl _ _ _, ⟨fun p hp' => (List.mem_append.1 hp').elim (hp p) (fun e => by simp at e; subst e; exact H0.out), bR'⟩, hB⟩
    · have hd : ((lim xs x.1 : Int) != 0) = true := by simp [h0]
      have H0 := Lib.hid h0
      clear h0
      have hbl : Hid (Lib.bitLen (lim xs x.1) = nbits (lim xs x.1)) := Lib.hid (bitLen_nbits hy)
      have hb64 : Lib.bitLen (lim xs x.1) ≤ 64 := by rw [hbl.out]; exact nbits_le (by simpa using hy)
      gi_wp2_with (refine ⟨trivial, ?_⟩; gi_at_call 146; refine (CallsIn.inRound l (callsIn_wide.2 (len64_calls _ hy _))).mono ?_; rintro e w' ⟨rfl, rfl⟩)
      refine ⟨(KeepsOthers.setCell _ _ _).from _, ⟨rfl, pre, x, rfl, hp, H0.out, ?_⟩, hB.setCell (p := ⟨w.heap.size, 0, none⟩) (by simp) _⟩
      rw [← hbl.out]
      exact bR'.set _
  case done =>
    rintro D ys W hD hys ⟨⟨hz, bR'⟩, hB⟩ hK
    simp only [World.size_alloc] at hD
    have HY := Lib.hid hys
    have hcR := bR'.cell
    have hfR := bR'.frozen
    clear hys
    gi_wp2
    have hK' := (KeepsOthers.setCell W ⟨w.heap.size, 0, none⟩ (.int .i64 0)).same D _ hK rfl
    have bR2 := (bR'.set (.int .i64 0)).kept (grownBy_putObj' _ D (.deferred none)) (by simp; omega)
    have hc5 := bR2.cell
    have hz' : nbits (val 18446744073709551616 xs) = 0 := by
      have : cutz xs = [] := cutz_none fun j hj => by
        obtain ⟨p, hp, e⟩ := mem_of_map HY.out (dn_mem (n := xs.length) (k := xs.length) (j := j) (by omega) hj)
        rw [← e]; exact hz p hp
      rw [← val_cutz, this]; rfl
    refine ⟨by simp, .inl ⟨_, _, rfl, run_takeDeferred hK', ?_⟩⟩
    refine ⟨.int .i64 0, ?_, by rw [hz']; rfl, (hB.setCell (p := ⟨w.heap.size, 0, none⟩) (by simp) _).trans (belowK_b (w := w) (Nat.le_refl _) _ D _ _ (by omega) hK' rfl rfl)⟩
    simp [results, Try.f151, go_sem, hc5]
  case stop =>
    rintro D c pre W hD ⟨k, hk, hpre⟩ ⟨⟨rfl, ini, last, e1, e2, e3, bR'⟩, hB⟩ hK
    simp only [World.size_alloc] at hD
    subst e1
    have HY := Lib.hid hpre
    have H3 := Lib.hid e3
    have H2 := Lib.hid e2
    clear hpre e3 e2
    gi_wp2
    have bR2 := bR'.kept (grownBy_putObj' _ D (.deferred none)) (by simp; omega)
    have hc5 := bR2.cell
    obtain ⟨k', rfl, hlast, hini⟩ := dn_last HY.out hk
    have hx := last.2
    have hz' : nbits (val 18446744073709551616 xs) = 64 * last.1 + nbits (lim xs last.1) := nbits_top (p := 64) rfl hlow H3.out fun j hj => by
      rcases Nat.lt_or_ge j xs.length with hj' | hj'
      · obtain ⟨p, hp, e⟩ := mem_of_map hini (dn_mem (n := xs.length) (k := k') (j := j) (by omega) hj')
        rw [← e]; exact H2.out p hp
      · exact lim_ge hj'
    have hBf := hB.trans (belowK_b (w := w) (Nat.le_refl _) _ D _ (.deferred none) (by omega) hK rfl rfl)
    refine ⟨by simp, .inl ⟨_, _, rfl, run_takeDeferred hK, ?_⟩⟩
    refine ⟨.int .i64 ((64 * last.1 + nbits (lim xs last.1) : Nat) : Int), ?_, by rw [hz'], hBf⟩
    simp [results, Try.f151, go_sem, hc5]
theorem bits_calls (b : Nat) (v : Value) (xs : List Nat) (hreach : xs.length ≤ 17592186044416) (hlow : Low 18446744073709551616 xs) (w : World) (hb : b < w.heap.size) (hI : RdAt b w v xs) :
    Calls Try.prog 151 #[v] w fun e W' => e = .returned (.int .i64 (nbits (val 18446744073709551616 xs) : Int)) ∧ Below w.heap.size w W' :=
  callsIn_wide.1 (bits_in 6 (Nat.le_refl _) b v xs hreach hlow w hb hI)
end Go.Proofs.Ytdcebkhdnhdejaa
