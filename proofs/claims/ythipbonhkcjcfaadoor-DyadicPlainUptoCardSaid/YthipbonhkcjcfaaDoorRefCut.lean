/- vernierref01.cut, vernierref01.Of: the document's own naturals, digits of 16 bits. -/
import Derived.Test.YthipbonhkcjcfaaDoorSame
import Derived.Test.YthipbonhkcjcfaaDoorNum
import Derived.Test.YthipbonhkcjcfaaDoorBitNum
namespace Go.Proofs.YthipbonhkcjcfaaDoor
open Go.RowKit Go.Shelf

/-- the slice value v reads as the digits xs; it lies in block b, or has none -/
def IAt (b : Nat) (W : World) (v : Value) (xs : List Nat) : Prop :=
  ((∃ a cap, v = .slice a 0 cap) ∧ xs = []) ∨ ∃ off cap, v = .slice (some ⟨b, off, none⟩) xs.length cap ∧ xs.length ≤ cap ∧ ∀ j, j < xs.length → W.cell? ⟨b, off + j, none⟩ = some (.int .i64 (lim xs j : Int))
section
variable {b : Nat} {W W' : World} {v : Value} {xs : List Nat}
theorem IAt.kept (h : IAt b W v xs) (hk : W'.heap[b]? = W.heap[b]?) : IAt b W' v xs := by
  rcases h with h | ⟨off, cap, e, hl, hc⟩
  · exact .inl h
  · exact .inr ⟨off, cap, e, hl, fun j hj => (World.cell?_of_block (w := W) hk).trans (hc j hj)⟩
theorem IAt.slice (h : IAt b W v xs) : ∃ a cap, v = .slice a xs.length cap ∧ xs.length ≤ cap ∧ (0 < xs.length → ∃ off, a = some ⟨b, off, none⟩) := by
  rcases h with ⟨⟨a, cap, rfl⟩, rfl⟩ | ⟨off, cap, rfl, hl, _⟩
  · exact ⟨a, cap, rfl, Nat.zero_le _, fun h => absurd h (by simp)⟩
  · exact ⟨_, cap, rfl, hl, fun _ => ⟨off, rfl⟩⟩
theorem IAt.cell {off m cap j : Nat} (h : IAt b W (.slice (some ⟨b, off, none⟩) m cap) xs) (hj : j < xs.length) : W.cell? ⟨b, off + j, none⟩ = some (.int .i64 (lim xs j : Int)) := by
  rcases h with ⟨_, rfl⟩ | ⟨off', cap', h, hl, hc⟩
  · exact absurd hj (by simp)
  · cases h; exact hc j hj
theorem IAt.take {a : Option Addr} {m cap k : Nat} (h : IAt b W (.slice a m cap) xs) (hk : k ≤ xs.length) : IAt b W (.slice a k cap) (xs.take k) := by
  rcases h with ⟨_, rfl⟩ | ⟨off', cap', h, hl, hc⟩
  · obtain rfl : k = 0 := by simpa using hk
    exact .inl ⟨⟨_, _, rfl⟩, by simp⟩
  · cases h
    refine .inr ⟨off', cap, by simp [Nat.min_eq_left hk], by simp; omega, fun j hj => ?_⟩
    have hj' : j < k := by simp at hj; omega
    rw [lim_take hj']
    exact hc j (by omega)
end

set_option maxHeartbeats 1000000 in
theorem cut_calls (b : Nat) (v : Value) (xs : List Nat) (hxl : xs.length ≤ 9223372036854775806) (w : World) (hI : IAt b w v xs) :
    Calls Tryd.prog 34 #[v] w fun e w' => ∃ v', e = .returned v' ∧ IAt b w v' (cutz xs) ∧ w = w' := by
  obtain ⟨a, cap, rfl, hcap, hsa⟩ := hI.slice
  have HS := Lib.hid hsa
  have HI := Lib.hid hI
  clear hsa hI
  go_enter Tryd.func34, Tryd.ntmps34
  go_wp2
  go_loop [3] (fun n => ∃ k : Nat, k ≤ xs.length ∧ n = .int .i64 k ∧ Hid (∀ j, k ≤ j → j < xs.length → lim xs j = 0)) (fun n => (intOf n).toNat)
  case atStart => exact ⟨xs.length, Nat.le_refl _, rfl, Lib.hid (fun j h1 h2 => absurd h2 (by omega))⟩
  case round =>
    obtain ⟨k, hk, rfl, hz⟩ := hrel
    rcases Nat.eq_zero_or_pos k with rfl | h0
    · have hfin : Hid (cutz xs = xs.take 0) := Lib.hid (cutz_at hk hz.out (.inl rfl))
      go_wp2
      go_ret
      exact ⟨_, rfl, by rw [hfin.out]; exact HI.out.take (Nat.zero_le _), rfl⟩
    · obtain ⟨q, rfl⟩ : ∃ q, k = q + 1 := ⟨k - 1, by omega⟩
      obtain ⟨off, rfl⟩ := HS.out (by omega)
      have hc := HI.out.cell (j := q) (by omega)
      have hp : (0 : Int) < ((q + 1 : Nat) : Int) := by omega
      by_cases h1 : lim xs q = 0
      · have hd : ((lim xs q : Int) == 0) = true := by simp [h1]
        have H1 := Lib.hid h1
        clear h1
        go_wp2
        refine ⟨⟨q, by omega, rfl, Lib.hid (fun j h1 h2 => ?_)⟩, by simp [intOf]⟩
        rcases Nat.lt_or_ge q j with h | h
        · exact hz.out j (by omega) h2
        · obtain rfl : j = q := by omega
          exact H1.out
      · have hd : ((lim xs q : Int) == 0) = false := by simp [h1]
        have hfin : Hid (cutz xs = xs.take (q + 1)) := Lib.hid (cutz_at hk hz.out (.inr h1))
        clear h1
        go_wp2
        go_ret
        exact ⟨_, rfl, by rw [hfin.out]; exact HI.out.take hk, rfl⟩

def ints (xs : List Nat) : List Value := xs.map fun (x : Nat) => Value.int .i64 (x : Int)
theorem ints_snoc (xs : List Nat) (x : Nat) : ints xs ++ [.int .i64 (x : Int)] = ints (xs ++ [x]) := by simp [ints]
theorem own_ints {W : World} {base m : Nat} {v : Value} {xs : List Nat} (h : W.ownsRow base 3 1 v m (ints xs)) : m = xs.length ∧ (v = .slice none 0 0 ∧ xs = [] ∨ ∃ S, base ≤ S ∧ S < W.heap.size ∧ IAt S W v xs) := by
  have hm : m = xs.length := by have := h.1; simp [ints] at this; omega
  subst hm
  refine ⟨rfl, ?_⟩
  rcases h.2 with ⟨h1, h2⟩ | ⟨g, cap, cur, rfl, hb, hg, hn, _, _, _⟩
  · exact .inl ⟨h1, List.eq_nil_of_length_eq_zero h2⟩
  · refine .inr ⟨g, hb, (Array.getElem?_eq_some_iff.1 hg).1, .inr ⟨0, cap, rfl, hn, fun j hj => ?_⟩⟩
    rw [Nat.zero_add, h.cellAt j (by omega)]
    simp [ints, lim, List.getElem?_eq_getElem hj]
/-- v reads as the digits xs -/
def IArg (W : World) (v : Value) (xs : List Nat) : Prop := ∃ S, S < W.heap.size ∧ IAt S W v xs
theorem IArg.behind {w w' : World} {v : Value} {xs : List Nat} (h : IArg w v xs) (hb : Below w.heap.size w w') : IArg w' v xs := by
  obtain ⟨b, h1, h2⟩ := h
  exact ⟨b, Nat.lt_of_lt_of_le h1 hb.size, h2.kept (hb.block b h1)⟩
/-- what a loop has collected, as it is handed on -/
theorem own_arg {W : World} {base m b : Nat} {v : Value} {xs : List Nat} (h : W.ownsRow base 3 1 v m (ints xs)) (hb : b < W.heap.size) : IArg W v xs := by
  rcases (own_ints h).2 with ⟨h1, h2⟩ | ⟨S, _, h2, h3⟩
  · exact ⟨b, hb, .inl ⟨⟨_, _, h1⟩, h2⟩⟩
  · exact ⟨S, h2, h3⟩

set_option maxHeartbeats 2000000 in
theorem of_calls (b : Nat) (v : Value) (xs : List Nat) (hxl : xs.length ≤ 4398046511104) (hlow : Low 18446744073709551616 xs) (w : World) (hb : b < w.heap.size) (hI : RdAt b w v xs) :
    Calls Tryd.prog 15 #[v] w fun e w' => ∃ v', e = .returned v' ∧ IArg w' v' (digs 65536 (val 18446744073709551616 xs)) ∧ Below w.heap.size w w' := by
  obtain ⟨a, cap, rfl, hcap, hsa⟩ := hI.slice
  have HS := Lib.hid hsa
  have HI := Lib.hid hI
  clear hsa hI
  obtain ⟨i0, hi, hz0, hz1, hz2⟩ := info_parts info_int
  go_enter Tryd.func15, Tryd.ntmps15
  go_wp2
  go_loopw [3, 4] (fun o i wr => ∃ k : Nat, k ≤ xs.length ∧ i = .int .i64 k ∧ Hid (wr.ownsRow w.heap.size 3 1 o (4 * k) (ints (of16 (xs.take k)))) ∧ Below w.heap.size w wr) (fun _ i _ => xs.length - (intOf i).toNat)
  case atStart => exact ⟨0, Nat.zero_le _, rfl, Lib.hid (by simpa [ints, of16] using World.ownsRow_nil w w.heap.size 3 1), Below.refl _ _⟩
  case round =>
    obtain ⟨k, hk, rfl, hown, hB⟩ := hrel
    by_cases hlt : k < xs.length
    · obtain ⟨off, rfl⟩ := HS.out (by omega)
      have hc : wr.cell? ⟨b, off + k, none⟩ = some (.int .u64 (lim xs k : Int)) := (hB.cell (p := ⟨b, off + k, none⟩) hb).trans (HI.out.cell hlt)
      obtain ⟨wo, rfl⟩ : ∃ wo : World, wo = wr := ⟨_, rfl⟩
      go_wp2
      generalize hL : lim xs k = L at *
      have HLk := Lib.hid hL
      have hLlow : L < 18446744073709551616 := by rw [← hL]; exact lim_lt hlow (by decide) k
      clear hL
      go_loopw [3, 5, 6] (fun o x j wi => ∃ m X : Nat, m ≤ 4 ∧ j = .int .i64 m ∧ Hid (X = L / 65536 ^ m) ∧ X < 18446744073709551616 ∧ x = .int .u64 X ∧ Hid (wi.ownsRow w.heap.size 3 1 o (4 * k + m) (ints (of16 (xs.take k) ++ (d16 L).take m))) ∧ Below w.heap.size w wi) (fun _ _ j _ => 4 - (intOf j).toNat)
      case atStart => exact ⟨0, L, by omega, rfl, Lib.hid (by simp), hLlow, rfl, Lib.hid (by simpa using hown.out), hB⟩
      case round =>
        obtain ⟨m, X, hm, rfl, hX, hXl, rfl, hown2, hB2⟩ := hrel
        by_cases hm4 : m < 4
        · go_wp2_with (at_builtin; refine wpList_append_own _ rfl _ _ 34 rfl w.heap.size 3 i0 (.int .i64 0) 1 8 Tryd.underlying34 hi hz0 hz1 hz2 rfl (by decide) _ _ _ rfl (hown2.out.alloc _) ⟨_, 0, none⟩ 1 1 [.int .i64 ((X % 65536 : Nat) : Int)] rfl rfl ?c1 ?c2 ?c3 ?c4 ?c5 ?_)
          case c1 => exact fun j u hu => cell_one_new wr (.int .i64 ((X : Int) % 65536)) 3 j u (by simpa using hu)
          case c2 => intro u hu; simp at hu; subst hu; rfl
          case c3 => simp only [maxLen]; omega
          case c4 => omega
          case c5 => have := hB2.size; simp; omega
          intro v' w1 hown' hgrow _
          have hown3 : Hid (w1.ownsRow w.heap.size 3 1 v' (4 * k + (m + 1)) (ints (of16 (xs.take k) ++ (d16 L).take (m + 1)))) := Lib.hid (by
            rw [d16_take L m hm4, ← hX.out, ← List.append_assoc, ← ints_snoc]
            exact hown')
          have hB3 : Below w.heap.size w w1 := (hB2.alloc hB2.size (.cells #[.int .i64 ((X : Int) % 65536)] 3)).grown hgrow (by have := hB2.size; simp; omega) (fun g e => (hown2.out.lt g e).1)
          have hX3 : Hid (X / 65536 = L / 65536 ^ (m + 1)) := Lib.hid (by rw [hX.out, Nat.pow_succ, Nat.div_div_eq_div_mul])
          clear hown' hgrow
          go_wp2
          go_roundw
          case rel => exact ⟨m + 1, X / 65536, by omega, by simp, hX3, by omega, by simp, hown3, hB3⟩
          case measure => simp [intOf]; omega
        · obtain rfl : m = 4 := by omega
          go_wp2
          go_roundw
          case rel =>
            refine ⟨k + 1, by omega, by simp, Lib.hid ?_, hB2⟩
            have h4 := hown2.out
            rw [show (d16 L).take 4 = d16 L from rfl, ← of16_snoc, ← HLk.out, ← take_snoc hlt] at h4
            exact h4
          case measure => simp [intOf]; omega
    · obtain rfl : k = xs.length := by omega
      have h4 := hown.out
      rw [List.take_of_length_le (Nat.le_refl _)] at h4
      obtain ⟨S, hS, hr⟩ := own_arg h4 (Nat.lt_of_lt_of_le hb hB.size)
      have hl : (of16 xs).length ≤ 9223372036854775806 := by rw [of16_length]; omega
      have HR := Lib.hid hr
      have hfin : Hid (cutz (of16 xs) = digs 65536 (val 18446744073709551616 xs)) := Lib.hid (by rw [cutz_eq_digs (by decide) (of16_low xs), of16_val hlow])
      obtain ⟨oa, oc, rfl, _, _⟩ := hr.slice
      clear hr h4
      go_wp2_with (go_at_call 34; refine (cut_calls S _ (of16 xs) hl _ HR.out).mono ?_; rintro e w' ⟨v', rfl, h7, rfl⟩)
      go_ret
      exact ⟨_, rfl, ⟨S, hS, by rw [← hfin.out]; exact h7⟩, hB⟩
end Go.Proofs.YthipbonhkcjcfaaDoor

/- vernierref01.Bits: how many bits one of the document's own naturals has. -/
namespace Go.Proofs.YthipbonhkcjcfaaDoor
open Go.RowKit Go.Shelf

set_option maxHeartbeats 1000000 in
theorem refBits_calls (b : Nat) (v : Value) (N : Nat) (hxl : (digs 65536 N).length ≤ 70368744177664) (w : World) (hI : IAt b w v (digs 65536 N)) :
    Calls Tryd.prog 26 #[v] w fun e w' => e = .returned (.int .i64 (nbits N : Int)) ∧ w = w' := by
  have hlow := digs_low (B := 65536) (by decide) N
  have hcut := cutz_digs (B := 65536) (by decide) N
  have hval : Hid (val 65536 (digs 65536 N) = N) := Lib.hid (val_digs (by decide) N)
  generalize digs 65536 N = xs at *
  obtain ⟨a, cap, rfl, hcap, hsa⟩ := hI.slice
  by_cases hne : xs = []
  · subst hne
    have hN : Hid (nbits N = 0) := Lib.hid (by rw [← hval.out]; rfl)
    clear hsa hI hcut
    go_enter Tryd.func26, Tryd.ntmps26
    go_wp2
    go_ret
    exact ⟨ret_int (by rw [hN.out]; rfl), rfl⟩
  · have hpos : 0 < xs.length := List.length_pos_iff.2 hne
    have ht := cutz_top hcut hne
    have hN : Hid (nbits N = 16 * (xs.length - 1) + nbits (lim xs (xs.length - 1))) := Lib.hid (by
      rw [← hval.out]
      exact nbits_top (p := 16) rfl hlow ht fun j hj => lim_ge (by omega))
    have htl := lim_lt hlow (by decide) (xs.length - 1)
    obtain ⟨off, rfl⟩ := hsa hpos
    have hc := hI.cell (j := xs.length - 1) (by omega)
    clear hI hcut ht hne hsa
    generalize lim xs (xs.length - 1) = T at *
    generalize hm : xs.length = m at *
    clear hm
    obtain ⟨q, rfl⟩ : ∃ q, m = q + 1 := ⟨m - 1, by omega⟩
    simp only [Nat.add_sub_cancel] at hc hN
    have h0 : (((q + 1 : Nat) : Int) == 0) = false := by simp; omega
    go_enter Tryd.func26, Tryd.ntmps26
    go_wp2
    go_loop [3, 4] (fun n x => ∃ c X : Nat, c ≤ 16 * q + 16 ∧ X < 65536 ∧ n = .int .i64 c ∧ x = .int .i64 X ∧ Hid (c + nbits X = nbits N) ∧ c + nbits X ≤ 16 * q + 16) (fun _ x => (intOf x).toNat)
    case atStart => exact ⟨16 * q, T, by omega, htl, by go_num, rfl, Lib.hid hN.out.symm, by have := nbits_le (n := T) (k := 16) htl; omega⟩
    case round =>
      obtain ⟨c, X, hc1, hX, rfl, rfl, hs, hs2⟩ := hrel
      by_cases hX0 : 0 < X
      · have hh := nbits_half (n := X) (by omega)
        have HH := Lib.hid hh
        have hle : c + 1 ≤ 16 * q + 16 := by omega
        clear hh
        go_wp2
        go_round
        case rel => exact ⟨c + 1, X / 2, by omega, by omega, by go_num, by go_num, Lib.hid (by rw [← hs.out, HH.out]; omega), by rw [HH.out] at hs2; omega⟩
        case measure => simp [intOf]; omega
      · obtain rfl : X = 0 := by omega
        go_wp2
        go_ret
        exact ⟨ret_int (by rw [← hs.out]; rfl), rfl⟩
end Go.Proofs.YthipbonhkcjcfaaDoor
