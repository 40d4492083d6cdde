/- natdiv.raise, natdiv.Shl: a number times a power of two. -/
import Derived.Test.YtdcebkhdnhdejaaRaise
import Derived.Test.YtdcebkhdnhdejaaLower
import Derived.Test.YtdcebkhdnhdejaaNums
namespace Go.Proofs.Ytdcebkhdnhdejaa
open Go.RowKit Go.Shelf

set_option maxHeartbeats 1000000 in
theorem raise_num {w : World} {va : Value} {M i m : Nat} (hA : Num w va M i) (hi : i ≤ 4398046511104) (hm : m ≤ 281474976710656) :
    Calls Try.prog 152 #[va, .int .i64 (m : Int)] w fun e W' => ∃ v, e = .returned v ∧ New w.heap.size W' v (digs 18446744073709551616 (M * 2 ^ m)) ∧ Below w.heap.size w W' := by
  obtain ⟨xs, ⟨b, hb, hI⟩, hlow, rfl, hl⟩ := hA
  have ht := ntrim_calls b va xs (by omega) hlow w hb hI
  have hcl := cutz_low hlow
  have hcv := val_cutz 18446744073709551616 xs
  have hcn := cutz_length xs
  obtain ⟨a, cap, rfl, _, _⟩ := hI.slice
  rw [← hcv]
  generalize cutz xs = ys at *
  clear hcv hI hlow
  by_cases h0 : ys = []
  · subst h0
    have hz : Hid (digs 18446744073709551616 (val 18446744073709551616 [] * 2 ^ m) = []) := Lib.hid (by simp [val, digs_zero])
    go_enter Try.func152, Try.ntmps152
    go_wp2_with fail
    refine ht.mono ?_
    rintro e w1 ⟨v1, rfl, hr1, hb1⟩
    obtain ⟨a1, c1, rfl, _, _⟩ := hr1.slice
    clear ht
    simp only [List.length_nil]
    go_wp2
    go_ret
    exact ⟨_, rfl, ⟨b, .inl ⟨⟨_, _, rfl⟩, hz.out⟩, Nat.lt_of_lt_of_le hb hb1.size, .inl rfl⟩, hb1⟩
  · have hpos : 0 < ys.length := List.length_pos_iff.2 h0
    have hne : ((ys.length : Int) == 0) = false := beq_eq_false_iff_ne.2 (by omega)
    clear h0
    go_enter Try.func152, Try.ntmps152
    go_wp2_with fail
    refine ht.mono ?_
    rintro e w1 ⟨v1, rfl, hr1, hb1⟩
    clear ht
    have hrw := raiseWide_calls b v1 ys m (by omega) hm hcl w1 (Nat.lt_of_lt_of_le hb hb1.size) hr1
    obtain ⟨a1, c1, rfl, _, _⟩ := hr1.slice
    clear hr1
    go_wp2_with fail
    refine hrw.mono ?_
    rintro e w2 ⟨S, s, rfl, hS, hS1, hsl, hslow, hsv, hb2⟩
    clear hrw
    have htr := ntrim_calls S (.slice (some ⟨S, 0, none⟩) s.length s.length) s (by omega) hslow w2 hS.lt (hS.rd _ (Nat.le_refl _))
    have hfin : Hid (cutz s = digs 18446744073709551616 (val 18446744073709551616 ys * 2 ^ m)) := Lib.hid (by rw [cutz_eq_digs (by decide) hslow, hsv])
    have hSl := hS.lt
    clear hsl hsv
    go_wp2_with fail
    refine htr.mono ?_
    rintro e w3 ⟨v3, rfl, hr3, hb3⟩
    rw [hfin.out] at hr3
    go_wp2
    go_ret
    exact ⟨_, rfl, ⟨S, hr3, Nat.lt_of_lt_of_le hSl hb3.size, .inr (Nat.le_trans hb1.size hS1)⟩, below_both (below_both hb1 hb2) hb3⟩

end Go.Proofs.Ytdcebkhdnhdejaa

/- nat.Norm, whose answer may be written; natdiv.Shr: a number by a power of two. -/
namespace Go.Proofs.Ytdcebkhdnhdejaa
open Go.RowKit Go.Shelf

def wordsU (xs : List Nat) : List Value := xs.map fun (x : Nat) => Value.int .u64 (x : Int)
set_option maxHeartbeats 1000000 in
theorem clone_wb (b off cap : Nat) (xs : List Nat) (h0 : 0 < xs.length) (hxl : xs.length ≤ 17592186044416) (w : World) (hb : b < w.heap.size) (hI : RdAt b w (.slice (some ⟨b, off, none⟩) xs.length cap) xs) :
    Calls Try.prog 91 #[.slice (some ⟨b, off, none⟩) xs.length cap] w fun e w' => ∃ v' S, e = .returned v' ∧ RdAt S w' v' xs ∧ Wb w' S ∧ w.heap.size ≤ S ∧ Below w.heap.size w w' := by
  obtain ⟨i0, hi, hz0, hz1, hz2⟩ := info_parts info_u64
  have heq : ∀ u : World, (binOp .eql 22 (.slice (some ⟨b, off, none⟩) xs.length cap) (.slice none 0 0)).run Try.prog u = .ok (.bool false) u := fun u => Lib.run_eql_slice_nil u 22 32 _ _ _ _ _ Try.underlying22
  have hown : Hid ((w.alloc (.cells #[] 32)).ownsRow w.heap.size 32 1 (.slice (some ⟨w.heap.size, 0, none⟩) 0 0) 0 []) := Lib.hid (World.ownsRow_lit w #[] 0 (Nat.le_refl _) (by simp [maxLen]) rfl)
  have hnews : Hid (∀ j u, (wordsU xs)[j]? = some u → (w.alloc (.cells #[] 32)).cell? ((⟨b, off, none⟩ : Addr).add j) = some u) := Lib.hid (by
    intro j u hu
    have hj : j < xs.length := by
      rcases Nat.lt_or_ge j xs.length with h | h
      · exact h
      · rw [List.getElem?_eq_none (by simpa [wordsU] using h)] at hu; cases hu
    have e : u = .int .u64 (lim xs j : Int) := by
      simp [wordsU, List.getElem?_eq_getElem hj] at hu
      rw [← hu]; simp [lim, List.getElem?_eq_getElem hj]
    have ha : (⟨b, off, none⟩ : Addr).add j = ⟨b, off + j, none⟩ := by
      unfold Addr.add; split <;> simp_all
    rw [ha, e, World.cell?_alloc_lt w _ _ (by simpa using hb)]
    exact hI.cell hj)
  have hone : Hid (∀ u ∈ wordsU xs, u.oneCell' = true) := Lib.hid (by intro u hu; obtain ⟨x, _, rfl⟩ := List.mem_map.1 hu; rfl)
  clear hI
  go_enter Try.func91, Try.ntmps91
  go_wp2_with (at_builtin; refine wpList_append_own _ rfl _ _ 22 rfl w.heap.size 32 i0 (.int .u64 0) 1 8 Try.underlying22 hi hz0 hz1 hz2 rfl (by decide) (.slice (some ⟨w.heap.size, 0, none⟩) 0 0) 0 [] rfl hown.out ⟨b, off, none⟩ xs.length cap (wordsU xs) rfl (by simp [wordsU]) hnews.out hone.out (by simp only [maxLen]; omega) (by omega) (by simp) ?_; intro v' w1 hown' hgrow _)
  go_ret
  have hB1 : Below w.heap.size w w1 := ((Below.refl _ w).alloc (Nat.le_refl _) (.cells #[] 32)).grown hgrow (by simp) (fun k e => by simp [Value.ownBlock] at e; omega)
  have hown2 : w1.ownsRow w.heap.size 32 1 v' xs.length (wordsU xs) := by simpa using hown'
  rcases hown2.2 with ⟨h1, h2⟩ | ⟨g, cp, cur, rfl, hbg, hg, hn, _, _, _⟩
  · omega
  · refine ⟨_, g, rfl, .inr ⟨0, cp, rfl, hn, fun j hj => ?_⟩, ⟨cur, hg⟩, hbg, hB1⟩
    rw [Nat.zero_add, hown2.cellAt j (by omega)]
    simp [wordsU, lim, List.getElem?_eq_getElem hj]

set_option maxHeartbeats 1000000 in
/-- nat.Norm of a list that is told as it is: a copy that may be written -/
theorem norm_wb (b off cap : Nat) (xs : List Nat) (h0 : 0 < xs.length) (hc : cutz xs = xs) (hxl : xs.length ≤ 17592186044416) (w : World) (hb : b < w.heap.size) (hI : RdAt b w (.slice (some ⟨b, off, none⟩) xs.length cap) xs) :
    Calls Try.prog 164 #[.slice (some ⟨b, off, none⟩) xs.length cap] w fun e w' => ∃ v' S, e = .returned v' ∧ RdAt S w' v' xs ∧ Wb w' S ∧ w.heap.size ≤ S ∧ Below w.heap.size w w' := by
  have ht := trim_calls b _ xs (by omega) w hb hI
  rw [hc] at ht
  clear hc
  go_enter Try.func164, Try.ntmps164
  go_wp2_with fail
  refine ht.mono ?_
  rintro e w1 ⟨v1, rfl, hr1, hb1⟩
  clear ht
  obtain ⟨a1, c1, rfl, _, hs1⟩ := hr1.slice
  obtain ⟨o1, rfl⟩ := hs1 h0
  have hcl := clone_wb b o1 c1 xs h0 hxl w1 (Nat.lt_of_lt_of_le hb hb1.size) hr1
  go_wp2_with fail
  refine hcl.mono ?_
  rintro e w2 ⟨v2, S, rfl, hr2, hw2, hS2, hb2⟩
  go_wp2_with fail
  go_ret
  exact ⟨_, S, rfl, hr2, hw2, Nat.le_trans hb1.size hS2, below_both hb1 hb2⟩

theorem RdAt.drop {b : Nat} {W : World} {xs : List Nat} {off m cap q : Nat} (h : RdAt b W (.slice (some ⟨b, off, none⟩) m cap) xs) (hq : q < xs.length) : RdAt b W (.slice (some ⟨b, off + q, none⟩) (xs.length - q) (cap - q)) (xs.drop q) := by
  rcases h with ⟨_, rfl⟩ | ⟨off', cap', h, hl, hc⟩
  · simp at hq
  · cases h
    refine .inr ⟨off + q, cap - q, by simp, by simp; omega, fun j hj => ?_⟩
    have hj' : q + j < xs.length := by simp at hj; omega
    have := hc (q + j) hj'
    rw [← Nat.add_assoc] at this
    rw [this, lim_drop']
where lim_drop' {s : List Nat} {o k : Nat} : lim (s.drop o) k = lim s (o + k) := by unfold lim; rw [List.getElem?_drop]
theorem val_drop {B : Nat} (hB : 0 < B) {xs : List Nat} (h : Low B xs) (q : Nat) : val B (xs.drop q) = val B xs / B ^ q := by
  rcases Nat.le_total xs.length q with hq | hq
  · rw [List.drop_of_length_le hq]
    have := Nat.lt_of_lt_of_le (val_lt h hB) (Nat.pow_le_pow_right hB hq)
    rw [Nat.div_eq_of_lt this]; rfl
  · have e := val_append B (xs.take q) (xs.drop q)
    rw [List.take_append_drop, List.length_take, Nat.min_eq_left hq] at e
    have hlt : val B (xs.take q) < B ^ q := by
      have := val_lt (B := B) (xs := xs.take q) (fun x hx => h x (List.mem_of_mem_take hx)) hB
      rwa [List.length_take, Nat.min_eq_left hq] at this
    rw [e, Nat.add_mul_div_left _ _ (Nat.pow_pos hB), Nat.div_eq_of_lt hlt, Nat.zero_add]
theorem cutz_drop {xs : List Nat} (h : cutz xs = xs) {q : Nat} (hq : q < xs.length) : cutz (xs.drop q) = xs.drop q := by
  have hne : xs ≠ [] := by intro e; rw [e] at hq; simp at hq
  have ht := cutz_top h hne
  have hl : (xs.drop q).length = xs.length - q := List.length_drop
  have := cutz_take (xs := xs.drop q) (i := xs.length - q - 1) (by omega) (by
    unfold lim at ht ⊢
    rw [List.getElem?_drop, show q + (xs.length - q - 1) = xs.length - 1 by omega]
    exact ht) (fun j h1 h2 => by omega)
  rw [this]
  exact List.take_of_length_le (by omega)

end Go.Proofs.Ytdcebkhdnhdejaa
