/- vernierref01.cut, vernierref01.Of: the document's own naturals, digits of 16 bits. -/
import Derived.Test.YtgobclmihppopabSame
import Derived.Test.YtgobclmihppopabNum
import Derived.Test.YtgobclmihppopabBitNum
import Derived.IntWalk
import Derived.Test.YtgobclmihppopabMulNum
import Derived.Test.YtgobclmihppopabNums
namespace Go.Proofs.Ytgobclmihppopab
open Go.RowKit Go.Shelf

/-- the slice value v reads as the digits xs; it lies in block b, or has none -/
def IAt (b : Nat) (W : World) (v : Value) (xs : List Nat) : Prop :=
  ((∃ a cap, v = .slice a 0 cap) ∧ xs = []) ∨ ∃ off cap, v = .slice (some ⟨b, off, none⟩) xs.length cap ∧ xs.length ≤ cap ∧ ∀ j, j < xs.length → W.cell? ⟨b, off + j, none⟩ = some (.int .i64 (lim xs j : Int))
section
variable {b : Nat} {W W' : World} {v : Value} {xs : List Nat}
set_option maxRecDepth 100000 in
theorem IAt.kept (h : IAt b W v xs) (hk : W'.heap[b]? = W.heap[b]?) : IAt b W' v xs := by
  rcases h with h | ⟨off, cap, e, hl, hc⟩
  · exact .inl h
  · exact .inr ⟨off, cap, e, hl, fun j hj => (World.cell?_of_block (w := W) hk).trans (hc j hj)⟩
set_option maxRecDepth 100000 in
theorem IAt.slice (h : IAt b W v xs) : ∃ a cap, v = .slice a xs.length cap ∧ xs.length ≤ cap ∧ (0 < xs.length → ∃ off, a = some ⟨b, off, none⟩) := by
  rcases h with ⟨⟨a, cap, rfl⟩, rfl⟩ | ⟨off, cap, rfl, hl, _⟩
  · exact ⟨a, cap, rfl, Nat.zero_le _, fun h => absurd h (by simp)⟩
  · exact ⟨_, cap, rfl, hl, fun _ => ⟨off, rfl⟩⟩
set_option maxRecDepth 100000 in
theorem IAt.cell {off m cap j : Nat} (h : IAt b W (.slice (some ⟨b, off, none⟩) m cap) xs) (hj : j < xs.length) : W.cell? ⟨b, off + j, none⟩ = some (.int .i64 (lim xs j : Int)) := by
  rcases h with ⟨_, rfl⟩ | ⟨off', cap', h, hl, hc⟩
  · exact absurd hj (by simp)
  · cases h; exact hc j hj
set_option maxRecDepth 100000 in
theorem IAt.take {a : Option Addr} {m cap k : Nat} (h : IAt b W (.slice a m cap) xs) (hk : k ≤ xs.length) : IAt b W (.slice a k cap) (xs.take k) := by
  rcases h with ⟨_, rfl⟩ | ⟨off', cap', h, hl, hc⟩
  · obtain rfl : k = 0 := by simpa using hk
    exact .inl ⟨⟨_, _, rfl⟩, by simp⟩
  · cases h
    refine .inr ⟨off', cap, by simp [Nat.min_eq_left hk], by simp; omega, fun j hj => ?_⟩
    have hj' : j < k := by simp at hj; omega
    rw [lim_take hj']
    exact hc j (by omega)
end

set_option maxRecDepth 100000 in
set_option maxHeartbeats 1000000 in
theorem cut_calls (b : Nat) (v : Value) (xs : List Nat) (hxl : xs.length ≤ 9223372036854775806) (w : World) (hI : IAt b w v xs) :
    Calls Try.prog 70 #[v] w fun e w' => ∃ v', e = .returned v' ∧ IAt b w v' (cutz xs) ∧ w = w' := by
  obtain ⟨a, cap, rfl, hcap, hsa⟩ := hI.slice
  have HS := Lib.hid hsa
  have HI := Lib.hid hI
  clear hsa hI
  go_enter Try.func70, Try.ntmps70
  go_wp2
  go_loop [3] (fun n => ∃ k : Nat, k ≤ xs.length ∧ n = .int .i64 k ∧ Hid (∀ j, k ≤ j → j < xs.length → lim xs j = 0)) (fun n => (intOf n).toNat)
  case atStart => exact ⟨xs.length, Nat.le_refl _, rfl, Lib.hid (fun j h1 h2 => absurd h2 (by omega))⟩
  case round =>
    obtain ⟨k, hk, rfl, hz⟩ := hrel
    rcases Nat.eq_zero_or_pos k with rfl | h0
    · have hfin : Hid (cutz xs = xs.take 0) := Lib.hid (cutz_at hk hz.out (.inl rfl))
      go_wp2
      go_ret
      exact ⟨_, rfl, by rw [hfin.out]; exact HI.out.take (Nat.zero_le _), rfl⟩
    · obtain ⟨q, rfl⟩ : ∃ q, k = q + 1 := ⟨k - 1, by omega⟩
      obtain ⟨off, rfl⟩ := HS.out (by omega)
      have hc := HI.out.cell (j := q) (by omega)
      have hp : (0 : Int) < ((q + 1 : Nat) : Int) := by omega
      by_cases h1 : lim xs q = 0
      · have hd : ((lim xs q : Int) == 0) = true := by simp [h1]
        have H1 := Lib.hid h1
        clear h1
        go_wp2
        refine ⟨⟨q, by omega, rfl, Lib.hid (fun j h1 h2 => ?_)⟩, by simp [intOf]⟩
        rcases Nat.lt_or_ge q j with h | h
        · exact hz.out j (by omega) h2
        · obtain rfl : j = q := by omega
          exact H1.out
      · have hd : ((lim xs q : Int) == 0) = false := by simp [h1]
        have hfin : Hid (cutz xs = xs.take (q + 1)) := Lib.hid (cutz_at hk hz.out (.inr h1))
        clear h1
        go_wp2
        go_ret
        exact ⟨_, rfl, by rw [hfin.out]; exact HI.out.take hk, rfl⟩

def ints (xs : List Nat) : List Value := xs.map fun (x : Nat) => Value.int .i64 (x : Int)
set_option maxRecDepth 100000 in
theorem ints_snoc (xs : List Nat) (x : Nat) : ints xs ++ [.int .i64 (x : Int)] = ints (xs ++ [x]) := by simp [ints]
set_option maxRecDepth 100000 in
theorem own_ints {W : World} {base m : Nat} {v : Value} {xs : List Nat} (h : W.ownsRow base 3 1 v m (ints xs)) : m = xs.length ∧ (v = .slice none 0 0 ∧ xs = [] ∨ ∃ S, base ≤ S ∧ S < W.heap.size ∧ IAt S W v xs) := by
  have hm : m = xs.length := by have := h.1; simp [ints] at this; omega
  subst hm
  refine ⟨rfl, ?_⟩
  rcases h.2 with ⟨h1, h2⟩ | ⟨g, cap, cur, rfl, hb, hg, hn, _, _, _⟩
  · exact .inl ⟨h1, List.eq_nil_of_length_eq_zero h2⟩
  · refine .inr ⟨g, hb, (Array.getElem?_eq_some_iff.1 hg).1, .inr ⟨0, cap, rfl, hn, fun j hj => ?_⟩⟩
    rw [Nat.zero_add, h.cellAt j (by omega)]
    simp [ints, lim, List.getElem?_eq_getElem hj]
/-- v reads as the digits xs -/
def IArg (W : World) (v : Value) (xs : List Nat) : Prop := ∃ S, S < W.heap.size ∧ IAt S W v xs
set_option maxRecDepth 100000 in
theorem IArg.behind {w w' : World} {v : Value} {xs : List Nat} (h : IArg w v xs) (hb : Below w.heap.size w w') : IArg w' v xs := by
  obtain ⟨b, h1, h2⟩ := h
  exact ⟨b, Nat.lt_of_lt_of_le h1 hb.size, h2.kept (hb.block b h1)⟩
set_option maxRecDepth 100000 in
/-- what a loop has collected, as it is handed on -/
theorem own_arg {W : World} {base m b : Nat} {v : Value} {xs : List Nat} (h : W.ownsRow base 3 1 v m (ints xs)) (hb : b < W.heap.size) : IArg W v xs := by
  rcases (own_ints h).2 with ⟨h1, h2⟩ | ⟨S, _, h2, h3⟩
  · exact ⟨b, hb, .inl ⟨⟨_, _, h1⟩, h2⟩⟩
  · exact ⟨S, h2, h3⟩

set_option maxRecDepth 100000 in
set_option maxHeartbeats 2000000 in
theorem of_calls (b : Nat) (v : Value) (xs : List Nat) (hxl : xs.length ≤ 4398046511104) (hlow : Low 18446744073709551616 xs) (w : World) (hb : b < w.heap.size) (hI : RdAt b w v xs) :
    Calls Try.prog 38 #[v] w fun e w' => ∃ v', e = .returned v' ∧ IArg w' v' (digs 65536 (val 18446744073709551616 xs)) ∧ Below w.heap.size w w' := by
  obtain ⟨a, cap, rfl, hcap, hsa⟩ := hI.slice
  have HS := Lib.hid hsa
  have HI := Lib.hid hI
  clear hsa hI
  obtain ⟨i0, hi, hz0, hz1, hz2⟩ := info_parts info_int
  go_enter Try.func38, Try.ntmps38
  go_wp2
  go_loopw [3, 4] (fun o i wr => ∃ k : Nat, k ≤ xs.length ∧ i = .int .i64 k ∧ Hid (wr.ownsRow w.heap.size 3 1 o (4 * k) (ints (of16 (xs.take k)))) ∧ Below w.heap.size w wr) (fun _ i _ => xs.length - (intOf i).toNat)
  case atStart => exact ⟨0, Nat.zero_le _, rfl, Lib.hid (by simpa [ints, of16] using World.ownsRow_nil w w.heap.size 3 1), Below.refl _ _⟩
  case round =>
    obtain ⟨k, hk, rfl, hown, hB⟩ := hrel
    by_cases hlt : k < xs.length
    · obtain ⟨off, rfl⟩ := HS.out (by omega)
      have hc : wr.cell? ⟨b, off + k, none⟩ = some (.int .u64 (lim xs k : Int)) := (hB.cell (p := ⟨b, off + k, none⟩) hb).trans (HI.out.cell hlt)
      obtain ⟨wo, rfl⟩ : ∃ wo : World, wo = wr := ⟨_, rfl⟩
      go_wp2
      generalize hL : lim xs k = L at *
      have HLk := Lib.hid hL
      have hLlow : L < 18446744073709551616 := by rw [← hL]; exact lim_lt hlow (by decide) k
      clear hL
      go_loopw [3, 5, 6] (fun o x j wi => ∃ m X : Nat, m ≤ 4 ∧ j = .int .i64 m ∧ Hid (X = L / 65536 ^ m) ∧ X < 18446744073709551616 ∧ x = .int .u64 X ∧ Hid (wi.ownsRow w.heap.size 3 1 o (4 * k + m) (ints (of16 (xs.take k) ++ (d16 L).take m))) ∧ Below w.heap.size w wi) (fun _ _ j _ => 4 - (intOf j).toNat)
      case atStart => exact ⟨0, L, by omega, rfl, Lib.hid (by simp), hLlow, rfl, Lib.hid (by simpa using hown.out), hB⟩
      case round =>
        obtain ⟨m, X, hm, rfl, hX, hXl, rfl, hown2, hB2⟩ := hrel
        by_cases hm4 : m < 4
        · go_wp2_with (at_builtin; refine wpList_append_own _ rfl _ _ 52 rfl w.heap.size 3 i0 (.int .i64 0) 1 8 Try.underlying52 hi hz0 hz1 hz2 rfl (by decide) _ _ _ rfl (hown2.out.alloc _) ⟨_, 0, none⟩ 1 1 [.int .i64 ((X % 65536 : Nat) : Int)] rfl rfl ?c1 ?c2 ?c3 ?c4 ?c5 ?_)
          case c1 => exact fun j u hu => cell_one_new wr (.int .i64 ((X : Int) % 65536)) 3 j u (by simpa using hu)
          case c2 => intro u hu; simp at hu; subst hu; rfl
          case c3 => simp only [maxLen]; omega
          case c4 => omega
          case c5 => have := hB2.size; simp; omega
          intro v' w1 hown' hgrow _
          have hown3 : Hid (w1.ownsRow w.heap.size 3 1 v' (4 * k + (m + 1)) (ints (of16 (xs.take k) ++ (d16 L).take (m + 1)))) := Lib.hid (by
            rw [d16_take L m hm4, ← hX.out, ← List.append_assoc, ← ints_snoc]
            exact hown')
          have hB3 : Below w.heap.size w w1 := (hB2.alloc hB2.size (.cells #[.int .i64 ((X : Int) % 65536)] 3)).grown hgrow (by have := hB2.size; simp; omega) (fun g e => (hown2.out.lt g e).1)
          have hX3 : Hid (X / 65536 = L / 65536 ^ (m + 1)) := Lib.hid (by rw [hX.out, Nat.pow_succ, Nat.div_div_eq_div_mul])
          clear hown' hgrow
          go_wp2
          go_roundw
          case rel => exact ⟨m + 1, X / 65536, by omega, by simp, hX3, by omega, by simp, hown3, hB3⟩
          case measure => simp [intOf]; omega
        · obtain rfl : m = 4 := by omega
          go_wp2
          go_roundw
          case rel =>
            refine ⟨k + 1, by omega, by simp, Lib.hid ?_, hB2⟩
            have h4 := hown2.out
            rw [show (d16 L).take 4 = d16 L from rfl, ← of16_snoc, ← HLk.out, ← take_snoc hlt] at h4
            exact h4
          case measure => simp [intOf]; omega
    · obtain rfl : k = xs.length := by omega
      have h4 := hown.out
      rw [List.take_of_length_le (Nat.le_refl _)] at h4
      obtain ⟨S, hS, hr⟩ := own_arg h4 (Nat.lt_of_lt_of_le hb hB.size)
      have hl : (of16 xs).length ≤ 9223372036854775806 := by rw [of16_length]; omega
      have HR := Lib.hid hr
      have hfin : Hid (cutz (of16 xs) = digs 65536 (val 18446744073709551616 xs)) := Lib.hid (by rw [cutz_eq_digs (by decide) (of16_low xs), of16_val hlow])
      obtain ⟨oa, oc, rfl, _, _⟩ := hr.slice
      clear hr h4
      go_wp2_with (go_at_call 70; refine (cut_calls S _ (of16 xs) hl _ HR.out).mono ?_; rintro e w' ⟨v', rfl, h7, rfl⟩)
      go_ret
      exact ⟨_, rfl, ⟨S, hS, by rw [← hfin.out]; exact h7⟩, hB⟩
end Go.Proofs.Ytgobclmihppopab

/- vernierref01.Bits: how many bits one of the document's own naturals has. -/
namespace Go.Proofs.Ytgobclmihppopab
open Go.RowKit Go.Shelf

set_option maxRecDepth 100000 in
set_option maxHeartbeats 1000000 in
theorem refBits_calls (b : Nat) (v : Value) (N : Nat) (hxl : (digs 65536 N).length ≤ 70368744177664) (w : World) (hI : IAt b w v (digs 65536 N)) :
    Calls Try.prog 64 #[v] w fun e w' => e = .returned (.int .i64 (nbits N : Int)) ∧ w = w' := by
  have hlow := digs_low (B := 65536) (by decide) N
  have hcut := cutz_digs (B := 65536) (by decide) N
  have hval : Hid (val 65536 (digs 65536 N) = N) := Lib.hid (val_digs (by decide) N)
  generalize digs 65536 N = xs at *
  obtain ⟨a, cap, rfl, hcap, hsa⟩ := hI.slice
  by_cases hne : xs = []
  · subst hne
    have hN : Hid (nbits N = 0) := Lib.hid (by rw [← hval.out]; rfl)
    clear hsa hI hcut
    go_enter Try.func64, Try.ntmps64
    go_wp2
    go_ret
    exact ⟨ret_int (by rw [hN.out]; rfl), rfl⟩
  · have hpos : 0 < xs.length := List.length_pos_iff.2 hne
    have ht := cutz_top hcut hne
    have hN : Hid (nbits N = 16 * (xs.length - 1) + nbits (lim xs (xs.length - 1))) := Lib.hid (by
      rw [← hval.out]
      exact nbits_top (p := 16) rfl hlow ht fun j hj => lim_ge (by omega))
    have htl := lim_lt hlow (by decide) (xs.length - 1)
    obtain ⟨off, rfl⟩ := hsa hpos
    have hc := hI.cell (j := xs.length - 1) (by omega)
    clear hI hcut ht hne hsa
    generalize lim xs (xs.length - 1) = T at *
    generalize hm : xs.length = m at *
    clear hm
    obtain ⟨q, rfl⟩ : ∃ q, m = q + 1 := ⟨m - 1, by omega⟩
    simp only [Nat.add_sub_cancel] at hc hN
    have h0 : (((q + 1 : Nat) : Int) == 0) = false := by simp; omega
    go_enter Try.func64, Try.ntmps64
    go_wp2
    go_loop [3, 4] (fun n x => ∃ c X : Nat, c ≤ 16 * q + 16 ∧ X < 65536 ∧ n = .int .i64 c ∧ x = .int .i64 X ∧ Hid (c + nbits X = nbits N) ∧ c + nbits X ≤ 16 * q + 16) (fun _ x => (intOf x).toNat)
    case atStart => exact ⟨16 * q, T, by omega, htl, by go_num, rfl, Lib.hid hN.out.symm, by have := nbits_le (n := T) (k := 16) htl; omega⟩
    case round =>
      obtain ⟨c, X, hc1, hX, rfl, rfl, hs, hs2⟩ := hrel
      by_cases hX0 : 0 < X
      · have hh := nbits_half (n := X) (by omega)
        have HH := Lib.hid hh
        have hle : c + 1 ≤ 16 * q + 16 := by omega
        clear hh
        go_wp2
        go_round
        case rel => exact ⟨c + 1, X / 2, by omega, by omega, by go_num, by go_num, Lib.hid (by rw [← hs.out, HH.out]; omega), by rw [HH.out] at hs2; omega⟩
        case measure => simp [intOf]; omega
      · obtain rfl : X = 0 := by omega
        go_wp2
        go_ret
        exact ⟨ret_int (by rw [← hs.out]; rfl), rfl⟩
end Go.Proofs.Ytgobclmihppopab

/- vernierref01.Limbs: digits of 16 bits, as words. -/
namespace Go.Proofs.Ytgobclmihppopab
open Go.RowKit Go.Shelf

def acc (xs : List Nat) (q : Nat) : Nat → Nat
  | 0 => 0
  | s + 1 => acc xs q s * 65536 + lim xs (4 * q + (3 - s))
/-- the word that four digits are -/
def lm (xs : List Nat) (q : Nat) : Nat := acc xs q 4
def words (xs : List Nat) (n : Nat) : List Nat := (List.range n).map (lm xs)
set_option maxRecDepth 100000 in
theorem words_succ (xs : List Nat) (n : Nat) : words xs (n + 1) = words xs n ++ [lm xs n] := by simp [words, List.range_succ]
set_option maxRecDepth 100000 in
theorem words_length (xs : List Nat) (n : Nat) : (words xs n).length = n := by simp [words]
set_option maxRecDepth 100000 in
theorem lim_words {xs : List Nat} {n i : Nat} (h : i < n) : lim (words xs n) i = lm xs i := by simp [lim, words, h]
set_option maxRecDepth 100000 in
theorem lm_eq (xs : List Nat) (q : Nat) : lm xs q = lim xs (4 * q) + 65536 * lim xs (4 * q + 1) + 4294967296 * lim xs (4 * q + 2) + 281474976710656 * lim xs (4 * q + 3) := by
  simp only [lm, acc]
  simp only [Nat.sub_self, Nat.add_zero, show 3 - 0 = 3 from rfl, show 3 - 1 = 2 from rfl, show 3 - 2 = 1 from rfl]
  omega
set_option maxRecDepth 100000 in
theorem acc_lt {xs : List Nat} (h : Low 65536 xs) (q : Nat) : acc xs q 0 < 1 ∧ acc xs q 1 < 65536 ∧ acc xs q 2 < 4294967296 ∧ acc xs q 3 < 281474976710656 ∧ acc xs q 4 < 18446744073709551616 := by
  have h0 := lim_lt h (by decide) (4 * q + (3 - 0))
  have h1 := lim_lt h (by decide) (4 * q + (3 - 1))
  have h2 := lim_lt h (by decide) (4 * q + (3 - 2))
  have h3 := lim_lt h (by decide) (4 * q + (3 - 3))
  simp only [acc]
  omega
set_option maxRecDepth 100000 in
theorem words_part {xs : List Nat} (n i : Nat) (hi : i ≤ n) : part 18446744073709551616 (words xs n) i = part 65536 xs (4 * i) := by
  induction i with
  | zero => rfl
  | succ i ih =>
    have e : 18446744073709551616 ^ i = 65536 ^ (4 * i) := by rw [Nat.pow_mul]
    rw [part, ih (by omega), lim_words (by omega), show 4 * (i + 1) = 4 * i + 1 + 1 + 1 + 1 by omega, part, part, part, part, lm_eq, e]
    have p1 : 65536 ^ (4 * i + 1) = 65536 ^ (4 * i) * 65536 := Nat.pow_succ _ _
    have p2 : 65536 ^ (4 * i + 1 + 1) = 65536 ^ (4 * i) * 4294967296 := by rw [Nat.pow_succ, p1, Nat.mul_assoc]
    have p3 : 65536 ^ (4 * i + 1 + 1 + 1) = 65536 ^ (4 * i) * 281474976710656 := by rw [Nat.pow_succ, p2, Nat.mul_assoc]
    rw [p1, p2, p3, Nat.mul_add, Nat.mul_add, Nat.mul_add, Nat.mul_assoc, Nat.mul_assoc, Nat.mul_assoc]
    omega
set_option maxRecDepth 100000 in
theorem words_low {xs : List Nat} (h : Low 65536 xs) (n : Nat) : Low 18446744073709551616 (words xs n) := by
  intro x hx
  obtain ⟨q, _, rfl⟩ := List.mem_map.1 hx
  exact (acc_lt h q).2.2.2.2
set_option maxRecDepth 100000 in
theorem words_digs {N n : Nat} (h1 : (digs 65536 N).length ≤ 4 * n) (h2 : 4 * n < (digs 65536 N).length + 4) : words (digs 65536 N) n = digs 18446744073709551616 N := by
  have hlow := digs_low (B := 65536) (by decide) N
  have hval : val 18446744073709551616 (words (digs 65536 N) n) = N := by
    rw [← part_all, words_length, words_part n n (Nat.le_refl _), part_ge _ _ _ h1, val_digs (by decide)]
  have hcut : cutz (words (digs 65536 N) n) = words (digs 65536 N) n := by
    cases n with
    | zero => rfl
    | succ m =>
      rw [words_succ]
      refine cutz_snoc ?_
      have hne : digs 65536 N ≠ [] := by intro h; rw [h] at h2; simp at h2; omega
      have ht := cutz_top (cutz_digs (B := 65536) (by decide) N) hne
      have hl : 0 < (digs 65536 N).length := List.length_pos_iff.2 hne
      intro h0
      rw [lm_eq] at h0
      have : (digs 65536 N).length - 1 = 4 * m ∨ (digs 65536 N).length - 1 = 4 * m + 1 ∨ (digs 65536 N).length - 1 = 4 * m + 2 ∨ (digs 65536 N).length - 1 = 4 * m + 3 := by omega
      rcases this with e | e | e | e <;> rw [e] at ht <;> omega
  rw [← hcut, cutz_eq_digs (by decide) (words_low hlow n), hval]

set_option maxRecDepth 100000 in
theorem cast_mul16 (X : Nat) : (X : Int) * 65536 = ((X * 65536 : Nat) : Int) := by omega
def wordsV (xs : List Nat) : List Value := xs.map fun (x : Nat) => Value.int .u64 (x : Int)

set_option maxRecDepth 100000 in
set_option maxHeartbeats 2000000 in
theorem limbs_calls (b : Nat) (v : Value) (N : Nat) (hxl : (digs 65536 N).length ≤ 70368744177664) (w : World) (hb : b < w.heap.size) (hI : IAt b w v (digs 65536 N)) :
    Calls Try.prog 45 #[v] w fun e w' => ∃ v', e = .returned v' ∧ New w.heap.size w' v' (digs 18446744073709551616 N) ∧ Below w.heap.size w w' := by
  obtain ⟨a, cap, rfl, hcap, hsa⟩ := hI.slice
  have hlow := digs_low (B := 65536) (by decide) N
  have hfin : Hid (∀ n, (digs 65536 N).length ≤ 4 * n → 4 * n < (digs 65536 N).length + 4 → words (digs 65536 N) n = digs 18446744073709551616 N) := Lib.hid (fun n h1 h2 => words_digs h1 h2)
  generalize digs 65536 N = xs at *
  have HS := Lib.hid hsa
  have HI := Lib.hid hI
  clear hsa hI
  obtain ⟨i0, hi, hz0, hz1, hz2⟩ := info_parts info_u64
  go_enter Try.func45, Try.ntmps45
  go_wp2
  go_loopw [3, 4] (fun o i wr => ∃ q I : Nat, I < xs.length + 4 ∧ I ≤ 4 * q ∧ 4 * q ≤ I ∧ i = .int .i64 I ∧ Hid (wr.ownsRow w.heap.size 22 1 o q (wordsV (words xs q))) ∧ Below w.heap.size w wr) (fun _ i _ => xs.length + 4 - (intOf i).toNat)
  case atStart => exact ⟨0, 0, by omega, by omega, by omega, rfl, Lib.hid (by simpa [wordsV, words] using World.ownsRow_nil w w.heap.size 22 1), Below.refl _ _⟩
  case round =>
    obtain ⟨q, I, hI, hq1, hq2, rfl, hown, hB⟩ := hrel
    by_cases hlt : I < xs.length
    · obtain ⟨off, rfl⟩ := HS.out (by omega)
      obtain ⟨wo, rfl⟩ : ∃ wo : World, wo = wr := ⟨_, rfl⟩
      go_wp2
      go_loop [5, 6] (fun x j => ∃ (r X : Nat) (z : Int), r ≤ 4 ∧ z + r = 3 ∧ j = .int .i64 z ∧ Hid (X = acc xs q r) ∧ (r < 4 → X < 281474976710656) ∧ x = .int .u64 X) (fun _ j => (intOf j + 1).toNat)
      case atStart => exact ⟨0, 0, 3, by omega, by omega, rfl, Lib.hid rfl, by omega, rfl⟩
      case round =>
        obtain ⟨r, X, z, hr, hz, rfl, hX, hXl, rfl⟩ := hrel
        by_cases hr4 : r < 4
        · obtain ⟨zz, rfl⟩ := Int.eq_ofNat_of_zero_le (show 0 ≤ z by omega)
          have hX' := hXl hr4
          have hidx : Hid (4 * q + (3 - r) = I + zz) := Lib.hid (by omega)
          have hlm := lim_lt hlow (by decide) (I + zz)
          have hacc : Hid (X * 65536 + lim xs (I + zz) = acc xs q (r + 1)) := Lib.hid (by rw [acc, hidx.out, hX.out])
          have hb4 : r + 1 < 4 → X * 65536 + lim xs (I + zz) < 281474976710656 := by
            intro h
            rw [hacc.out]
            have h5 := acc_lt hlow q
            have : r + 1 = 1 ∨ r + 1 = 2 ∨ r + 1 = 3 := by omega
            rcases this with e | e | e <;> rw [e] <;> omega
          have HB4 := Lib.hid hb4
          have HB5 : Hid (r + 1 < 4 → X * 65536 < 281474976710656) := Lib.hid (fun h => Nat.lt_of_le_of_lt (Nat.le_add_right _ _) (hb4 h))
          clear hb4 hXl
          by_cases hin : I + zz < xs.length
          · have hc : wo.cell? ⟨b, off + (I + zz), none⟩ = some (.int .i64 (lim xs (I + zz) : Int)) := (hB.cell (p := ⟨b, off + (I + zz), none⟩) hb).trans (HI.out.cell hin)
            go_wp2
            go_round
            case rel => exact ⟨r + 1, X * 65536 + lim xs (I + zz), (zz : Int) - 1, by omega, by omega, rfl, hacc, HB4.out, by simp⟩
            case measure => simp [intOf]
          · have h0 : Hid (lim xs (I + zz) = 0) := Lib.hid (lim_ge (by omega))
            go_wp2
            go_round
            case rel => exact ⟨r + 1, X * 65536, (zz : Int) - 1, by omega, by omega, rfl, Lib.hid (by rw [← hacc.out, h0.out, Nat.add_zero]), HB5.out, congrArg (Value.int .u64) (cast_mul16 X)⟩
            case measure => simp [intOf]
        · obtain rfl : r = 4 := by omega
          obtain rfl : z = -1 := by omega
          go_wp2_with (at_builtin; refine wpList_append_own _ rfl _ _ 34 rfl w.heap.size 22 i0 (.int .u64 0) 1 8 Try.underlying34 hi hz0 hz1 hz2 rfl (by decide) _ _ _ rfl (hown.out.alloc _) ⟨_, 0, none⟩ 1 1 [.int .u64 (X : Int)] rfl rfl ?c1 ?c2 ?c3 ?c4 ?c5 ?_)
          case c2 => rfl
          case c3 => simp only [maxLen]; omega
          case c4 => omega
          case c5 => have := hB.size; omega
          intro v' w1 hown' hgrow _
          have hown3 : Hid (w1.ownsRow w.heap.size 22 1 v' (q + 1) (wordsV (words xs (q + 1)))) := Lib.hid (by
            rw [words_succ]
            have e : wordsV (words xs q ++ [lm xs q]) = wordsV (words xs q) ++ [.int .u64 (X : Int)] := by rw [hX.out]; simp [wordsV, lm]
            rw [e]
            exact hown')
          have hB3 : Below w.heap.size w w1 := (hB.alloc hB.size (.cells #[.int .u64 (X : Int)] 22)).grown hgrow (by have := hB.size; simp; omega) (fun g e => (hown.out.lt g e).1)
          clear hown' hgrow
          go_wp2
          go_roundw
          case rel => exact ⟨q + 1, I + 4, by omega, by omega, by omega, by simp, hown3, hB3⟩
          case measure => simp [intOf]; omega
    · have h4 := hown.out
      rcases ownsRow_rd (xs := words xs q) h4 with ⟨rfl, h5⟩ | ⟨S, hS1, hS2, hr⟩
      · have H5 := Lib.hid h5
        clear h5 h4
        go_wp2
        go_ret
        exact ⟨_, rfl, ⟨b, .inl ⟨⟨_, _, rfl⟩, by rw [← hfin.out q (by omega) (by omega)]; exact H5.out⟩, Nat.lt_of_lt_of_le hb hB.size, .inl rfl⟩, hB⟩
      · have HR := Lib.hid hr
        obtain ⟨oa, oc, rfl, _, _⟩ := hr.slice
        clear hr h4
        go_wp2
        go_ret
        exact ⟨_, rfl, ⟨S, by rw [← hfin.out q (by omega) (by omega)]; exact HR.out, hS2, .inr hS1⟩, hB⟩
end Go.Proofs.Ytgobclmihppopab

/- vernierref01.Add: the document's own sum. -/
namespace Go.Proofs.Ytgobclmihppopab
open Go.RowKit Go.Shelf

/-- the digits of a sum, one by one: (what has been told, what is carried) -/
def sum16 (P Q : List Nat) : Nat → List Nat × Nat
  | 0 => ([], 0)
  | k + 1 => ((sum16 P Q k).1 ++ [((sum16 P Q k).2 + lim P k + lim Q k) % 65536], ((sum16 P Q k).2 + lim P k + lim Q k) / 65536)
set_option maxRecDepth 100000 in
theorem sum16_fine {P Q : List Nat} (hP : Low 65536 P) (hQ : Low 65536 Q) (k : Nat) : (sum16 P Q k).1.length = k ∧ (sum16 P Q k).2 ≤ 1 ∧ Low 65536 (sum16 P Q k).1 ∧
    val 65536 (sum16 P Q k).1 + 65536 ^ k * (sum16 P Q k).2 = part 65536 P k + part 65536 Q k := by
  induction k with
  | zero => exact ⟨rfl, by simp [sum16], (by intro x hx; cases hx), by simp [sum16, val, part]⟩
  | succ k ih =>
    obtain ⟨h1, h2, h3, h4⟩ := ih
    have hp := lim_lt hP (by decide) k
    have hq := lim_lt hQ (by decide) k
    simp only [sum16]
    generalize sum16 P Q k = s at h1 h2 h3 h4 ⊢
    refine ⟨by simp [h1], by omega, ?_, ?_⟩
    · intro x hx
      rcases List.mem_append.1 hx with h | h
      · exact h3 x h
      · simp at h; subst h; exact Nat.mod_lt _ (by decide)
    · rw [val_append, h1]
      simp only [val, part, Nat.mul_zero, Nat.add_zero]
      have hd : (s.2 + lim P k + lim Q k) % 65536 + 65536 * ((s.2 + lim P k + lim Q k) / 65536) = s.2 + lim P k + lim Q k := Nat.mod_add_div _ _
      have hm := congrArg (65536 ^ k * ·) hd
      simp only [Nat.mul_add, ← Nat.mul_assoc] at hm
      rw [Nat.pow_succ]
      omega
set_option maxRecDepth 100000 in
theorem sum16_digs {M N k : Nat} (h1 : (digs 65536 M).length ≤ k) (h2 : (digs 65536 N).length ≤ k) (h0 : (sum16 (digs 65536 M) (digs 65536 N) k).2 = 0) : cutz (sum16 (digs 65536 M) (digs 65536 N) k).1 = digs 65536 (M + N) := by
  obtain ⟨_, _, f3, f4⟩ := sum16_fine (digs_low (B := 65536) (by decide) M) (digs_low (B := 65536) (by decide) N) k
  rw [h0, part_ge _ _ _ h1, part_ge _ _ _ h2, val_digs (by decide), val_digs (by decide)] at f4
  rw [cutz_eq_digs (by decide) f3]
  congr 1

set_option maxRecDepth 100000 in
set_option maxHeartbeats 2000000 in
theorem refAdd_calls (ba bb : Nat) (va vb : Value) (M N : Nat) (hxl : (digs 65536 M).length ≤ 4398046511104) (hyl : (digs 65536 N).length ≤ 4398046511104) (w : World) (hba : ba < w.heap.size) (hbb : bb < w.heap.size) (hA : IAt ba w va (digs 65536 M)) (hB : IAt bb w vb (digs 65536 N)) :
    Calls Try.prog 75 #[va, vb] w fun e w' => ∃ v', e = .returned v' ∧ IArg w' v' (digs 65536 (M + N)) ∧ Below w.heap.size w w' := by
  obtain ⟨a, cap, rfl, hcap, hsa⟩ := hA.slice
  obtain ⟨b, cbp, rfl, hcbp, hsb⟩ := hB.slice
  have hP := digs_low (B := 65536) (by decide) M
  have hQ := digs_low (B := 65536) (by decide) N
  have hfin : Hid (∀ k, (digs 65536 M).length ≤ k → (digs 65536 N).length ≤ k → (sum16 (digs 65536 M) (digs 65536 N) k).2 = 0 → cutz (sum16 (digs 65536 M) (digs 65536 N) k).1 = digs 65536 (M + N)) := Lib.hid (fun k h1 h2 h0 => sum16_digs h1 h2 h0)
  generalize digs 65536 M = P at *
  generalize digs 65536 N = Q at *
  have HSA := Lib.hid hsa
  have HSB := Lib.hid hsb
  have HA := Lib.hid hA
  have HB := Lib.hid hB
  clear hsa hsb hA hB
  obtain ⟨i0, hi, hz0, hz1, hz2⟩ := info_parts info_int
  go_enter Try.func75, Try.ntmps75
  go_wp2
  go_loopw [5, 6, 7] (fun o c i wr => ∃ k C : Nat, k ≤ P.length + Q.length + 1 ∧ (C = 0 ∨ k ≤ P.length ∨ k ≤ Q.length) ∧ i = .int .i64 k ∧ C ≤ 1 ∧ Hid (C = (sum16 P Q k).2) ∧ c = .int .i64 C ∧ Hid (wr.ownsRow w.heap.size 3 1 o k (ints (sum16 P Q k).1)) ∧ Below w.heap.size w wr) (fun _ _ i _ => P.length + Q.length + 2 - (intOf i).toNat)
  case atStart => exact ⟨0, 0, by omega, .inl rfl, rfl, by omega, Lib.hid rfl, rfl, Lib.hid (by simpa [ints, sum16] using World.ownsRow_nil w w.heap.size 3 1), Below.refl _ _⟩
  case round =>
    obtain ⟨k, C, hk, hCk, rfl, hC1, hC, rfl, hown, hBw⟩ := hrel
    have hlp := lim_lt hP (by decide) k
    have hlq := lim_lt hQ (by decide) k
    by_cases hp : k < P.length
    · obtain ⟨oa, rfl⟩ := HSA.out (by omega)
      have hca : wr.cell? ⟨ba, oa + k, none⟩ = some (.int .i64 (lim P k : Int)) := (hBw.cell (p := ⟨ba, oa + k, none⟩) hba).trans (HA.out.cell hp)
      by_cases hq : k < Q.length
      · obtain ⟨ob, rfl⟩ := HSB.out (by omega)
        have hcb : wr.cell? ⟨bb, ob + k, none⟩ = some (.int .i64 (lim Q k : Int)) := (hBw.cell (p := ⟨bb, ob + k, none⟩) hbb).trans (HB.out.cell hq)
        have hE : Hid ((((C : Int) + (lim P k : Int) + (lim Q k : Int)) % 65536 : Int) = (((C + lim P k + lim Q k) % 65536 : Nat) : Int)) := Lib.hid (by omega)
        have hE2 : Hid ((((C : Int) + (lim P k : Int) + (lim Q k : Int)) / 65536 : Int) = (((C + lim P k + lim Q k) / 65536 : Nat) : Int)) := Lib.hid (by omega)
        have hS1 : Hid ((sum16 P Q (k + 1)).1 = (sum16 P Q k).1 ++ [(C + lim P k + lim Q k) % 65536]) := Lib.hid (by simp only [sum16]; rw [← hC.out])
        have hS2 : Hid ((sum16 P Q (k + 1)).2 = (C + lim P k + lim Q k) / 65536) := Lib.hid (by simp only [sum16]; rw [← hC.out])
        have hS3 : (C + lim P k + lim Q k) / 65536 ≤ 1 := by omega
        go_wp2_with (at_builtin; refine wpList_append_own _ rfl _ _ 52 rfl w.heap.size 3 i0 (.int .i64 0) 1 8 Try.underlying52 hi hz0 hz1 hz2 rfl (by decide) _ _ _ rfl (hown.out.alloc _) ⟨_, 0, none⟩ 1 1 [.int .i64 (((C : Int) + (lim P k : Int) + (lim Q k : Int)) % 65536)] rfl rfl (cell_one_new _ _ _) (by intro u hu; simp at hu; subst hu; rfl) (by simp only [maxLen]; omega) (by omega) (by have := hBw.size; simp; omega) ?_; intro v' w1 hown' hgrow _)
        have hown3 : Hid (w1.ownsRow w.heap.size 3 1 v' (k + 1) (ints (sum16 P Q (k + 1)).1)) := Lib.hid (by rw [hS1.out, ← ints_snoc, ← hE.out]; exact hown')
        have hB3 : Below w.heap.size w w1 := (hBw.alloc hBw.size (.cells #[.int .i64 (((C : Int) + (lim P k : Int) + (lim Q k : Int)) % 65536)] 3)).grown hgrow (by have := hBw.size; simp; omega) (fun g e => (hown.out.lt g e).1)
        clear hown' hgrow
        go_wp2
        go_roundw
        case rel => exact ⟨k + 1, (C + lim P k + lim Q k) / 65536, by omega, .inr (.inl (by omega)), by simp, hS3, Lib.hid hS2.out.symm, congrArg (Value.int .i64) hE2.out, hown3, hB3⟩
        case measure => simp [intOf]; omega
      · have h0 : Hid (lim Q k = 0) := Lib.hid (lim_ge (by omega))
        have hE : Hid ((((C : Int) + (lim P k : Int)) % 65536 : Int) = (((C + lim P k) % 65536 : Nat) : Int)) := Lib.hid (by omega)
        have hE2 : Hid ((((C : Int) + (lim P k : Int)) / 65536 : Int) = (((C + lim P k) / 65536 : Nat) : Int)) := Lib.hid (by omega)
        have hS1 : Hid ((sum16 P Q (k + 1)).1 = (sum16 P Q k).1 ++ [(C + lim P k) % 65536]) := Lib.hid (by simp only [sum16]; rw [← hC.out, h0.out, Nat.add_zero])
        have hS2 : Hid ((sum16 P Q (k + 1)).2 = (C + lim P k) / 65536) := Lib.hid (by simp only [sum16]; rw [← hC.out, h0.out, Nat.add_zero])
        have hS3 : (C + lim P k) / 65536 ≤ 1 := by omega
        go_wp2_with (at_builtin; refine wpList_append_own _ rfl _ _ 52 rfl w.heap.size 3 i0 (.int .i64 0) 1 8 Try.underlying52 hi hz0 hz1 hz2 rfl (by decide) _ _ _ rfl (hown.out.alloc _) ⟨_, 0, none⟩ 1 1 [.int .i64 (((C : Int) + (lim P k : Int)) % 65536)] rfl rfl (cell_one_new _ _ _) (by intro u hu; simp at hu; subst hu; rfl) (by simp only [maxLen]; omega) (by omega) (by have := hBw.size; simp; omega) ?_; intro v' w1 hown' hgrow _)
        have hown3 : Hid (w1.ownsRow w.heap.size 3 1 v' (k + 1) (ints (sum16 P Q (k + 1)).1)) := Lib.hid (by rw [hS1.out, ← ints_snoc, ← hE.out]; exact hown')
        have hB3 : Below w.heap.size w w1 := (hBw.alloc hBw.size (.cells #[.int .i64 (((C : Int) + (lim P k : Int)) % 65536)] 3)).grown hgrow (by have := hBw.size; simp; omega) (fun g e => (hown.out.lt g e).1)
        clear hown' hgrow
        go_wp2
        go_roundw
        case rel => exact ⟨k + 1, (C + lim P k) / 65536, by omega, .inr (.inl (by omega)), by simp, hS3, Lib.hid hS2.out.symm, congrArg (Value.int .i64) hE2.out, hown3, hB3⟩
        case measure => simp [intOf]; omega
    · have h00 : Hid (lim P k = 0) := Lib.hid (lim_ge (by omega))
      by_cases hq : k < Q.length
      · obtain ⟨ob, rfl⟩ := HSB.out (by omega)
        have hcb : wr.cell? ⟨bb, ob + k, none⟩ = some (.int .i64 (lim Q k : Int)) := (hBw.cell (p := ⟨bb, ob + k, none⟩) hbb).trans (HB.out.cell hq)
        have hE : Hid ((((C : Int) + (lim Q k : Int)) % 65536 : Int) = (((C + lim Q k) % 65536 : Nat) : Int)) := Lib.hid (by omega)
        have hE2 : Hid ((((C : Int) + (lim Q k : Int)) / 65536 : Int) = (((C + lim Q k) / 65536 : Nat) : Int)) := Lib.hid (by omega)
        have hS1 : Hid ((sum16 P Q (k + 1)).1 = (sum16 P Q k).1 ++ [(C + lim Q k) % 65536]) := Lib.hid (by simp only [sum16]; rw [← hC.out, h00.out, Nat.add_zero])
        have hS2 : Hid ((sum16 P Q (k + 1)).2 = (C + lim Q k) / 65536) := Lib.hid (by simp only [sum16]; rw [← hC.out, h00.out, Nat.add_zero])
        have hS3 : (C + lim Q k) / 65536 ≤ 1 := by omega
        go_wp2_with (at_builtin; refine wpList_append_own _ rfl _ _ 52 rfl w.heap.size 3 i0 (.int .i64 0) 1 8 Try.underlying52 hi hz0 hz1 hz2 rfl (by decide) _ _ _ rfl (hown.out.alloc _) ⟨_, 0, none⟩ 1 1 [.int .i64 (((C : Int) + (lim Q k : Int)) % 65536)] rfl rfl (cell_one_new _ _ _) (by intro u hu; simp at hu; subst hu; rfl) (by simp only [maxLen]; omega) (by omega) (by have := hBw.size; simp; omega) ?_; intro v' w1 hown' hgrow _)
        have hown3 : Hid (w1.ownsRow w.heap.size 3 1 v' (k + 1) (ints (sum16 P Q (k + 1)).1)) := Lib.hid (by rw [hS1.out, ← ints_snoc, ← hE.out]; exact hown')
        have hB3 : Below w.heap.size w w1 := (hBw.alloc hBw.size (.cells #[.int .i64 (((C : Int) + (lim Q k : Int)) % 65536)] 3)).grown hgrow (by have := hBw.size; simp; omega) (fun g e => (hown.out.lt g e).1)
        clear hown' hgrow
        go_wp2
        go_roundw
        case rel => exact ⟨k + 1, (C + lim Q k) / 65536, by omega, .inr (.inr (by omega)), by simp, hS3, Lib.hid hS2.out.symm, congrArg (Value.int .i64) hE2.out, hown3, hB3⟩
        case measure => simp [intOf]; omega
      · have h0 : Hid (lim Q k = 0) := Lib.hid (lim_ge (by omega))
        by_cases hc0 : 0 < C
        · skip
          have hE : Hid ((((C : Int)) % 65536 : Int) = (((C) % 65536 : Nat) : Int)) := Lib.hid (by omega)
          have hE2 : Hid ((((C : Int)) / 65536 : Int) = (((C) / 65536 : Nat) : Int)) := Lib.hid (by omega)
          have hS1 : Hid ((sum16 P Q (k + 1)).1 = (sum16 P Q k).1 ++ [(C) % 65536]) := Lib.hid (by simp only [sum16]; rw [← hC.out, h0.out, h00.out, Nat.add_zero])
          have hS2 : Hid ((sum16 P Q (k + 1)).2 = (C) / 65536) := Lib.hid (by simp only [sum16]; rw [← hC.out, h0.out, h00.out, Nat.add_zero])
          have hS3 : (C) / 65536 ≤ 1 := by omega
          go_wp2_with (at_builtin; refine wpList_append_own _ rfl _ _ 52 rfl w.heap.size 3 i0 (.int .i64 0) 1 8 Try.underlying52 hi hz0 hz1 hz2 rfl (by decide) _ _ _ rfl (hown.out.alloc _) ⟨_, 0, none⟩ 1 1 [.int .i64 (((C : Int)) % 65536)] rfl rfl (cell_one_new _ _ _) (by intro u hu; simp at hu; subst hu; rfl) (by simp only [maxLen]; omega) (by omega) (by have := hBw.size; simp; omega) ?_; intro v' w1 hown' hgrow _)
          have hown3 : Hid (w1.ownsRow w.heap.size 3 1 v' (k + 1) (ints (sum16 P Q (k + 1)).1)) := Lib.hid (by rw [hS1.out, ← ints_snoc, ← hE.out]; exact hown')
          have hB3 : Below w.heap.size w w1 := (hBw.alloc hBw.size (.cells #[.int .i64 (((C : Int)) % 65536)] 3)).grown hgrow (by have := hBw.size; simp; omega) (fun g e => (hown.out.lt g e).1)
          clear hown' hgrow
          go_wp2
          go_roundw
          case rel => exact ⟨k + 1, (C) / 65536, by omega, .inl (by omega), by simp, hS3, Lib.hid hS2.out.symm, congrArg (Value.int .i64) hE2.out, hown3, hB3⟩
          case measure => simp [intOf]; omega
        · obtain rfl : C = 0 := by omega
          have h4 := hown.out
          obtain ⟨S, hS, hr⟩ := own_arg h4 (Nat.lt_of_lt_of_le hba hBw.size)
          obtain ⟨f1, _, _, _⟩ := sum16_fine hP hQ k
          have hl : (sum16 P Q k).1.length ≤ 9223372036854775806 := by omega
          have HF : Hid (cutz (sum16 P Q k).1 = digs 65536 (M + N)) := Lib.hid (hfin.out k (by omega) (by omega) hC.out.symm)
          have HR := Lib.hid hr
          obtain ⟨xa, xc, rfl, _, _⟩ := hr.slice
          clear hr h4 f1
          go_wp2_with (go_at_call 70; refine (cut_calls S _ (sum16 P Q k).1 hl _ HR.out).mono ?_; rintro e w' ⟨v', rfl, h7, rfl⟩)
          go_ret
          exact ⟨_, rfl, ⟨S, hS, by rw [← HF.out]; exact h7⟩, hBw⟩
end Go.Proofs.Ytgobclmihppopab

/- vernierref01.Cmp: how two of the document's own naturals stand. -/
namespace Go.Proofs.Ytgobclmihppopab
open Go.RowKit Go.Shelf

set_option maxRecDepth 100000 in
set_option maxHeartbeats 2000000 in
theorem refCmp_calls (ba bb : Nat) (va vb : Value) (M N : Nat) (hxl : (digs 65536 M).length ≤ 9223372036854775806) (_hyl : (digs 65536 N).length ≤ 9223372036854775806) (w : World) (hA : IAt ba w va (digs 65536 M)) (hB : IAt bb w vb (digs 65536 N)) :
    Calls Try.prog 43 #[va, vb] w fun e w' => e = .returned (.int .i64 (cmpN M N)) ∧ ∃ q, w' = w.drewN q := by
  obtain ⟨a, cap, rfl, hcap, hsa⟩ := hA.slice
  obtain ⟨b, cbp, rfl, hcbp, hsb⟩ := hB.slice
  have hP := digs_low (B := 65536) (by decide) M
  have hQ := digs_low (B := 65536) (by decide) N
  have hPc := cutz_digs (B := 65536) (by decide) M
  have hQc := cutz_digs (B := 65536) (by decide) N
  have hM : Hid (M = val 65536 (digs 65536 M)) := Lib.hid (val_digs (by decide) M).symm
  have hN : Hid (N = val 65536 (digs 65536 N)) := Lib.hid (val_digs (by decide) N).symm
  generalize digs 65536 M = P at *
  generalize digs 65536 N = Q at *
  have HSA := Lib.hid hsa
  have HSB := Lib.hid hsb
  have HA := Lib.hid hA
  have HB := Lib.hid hB
  have HPC := Lib.hid hPc
  have HQC := Lib.hid hQc
  clear hsa hsb hA hB hPc hQc
  by_cases hl : P.length = Q.length
  · have hle : P.length ≤ Q.length ∧ Q.length ≤ P.length := by omega
    have hd : ((P.length : Int) != (Q.length : Int)) = false := by simp [hl]
    have hd' : (P.length != Q.length) = false := by simp [hl]
    have HL := Lib.hid hl
    clear hl
    go_enter Try.func43, Try.ntmps43
    go_wp2
    go_loopw [5] (fun i wr => ∃ (r : Nat) (z : Int), r ≤ P.length ∧ z + 1 = r ∧ i = .int .i64 z ∧ Hid (∀ j, r ≤ j → j < P.length → lim P j = lim Q j) ∧ ∃ q, wr = w.drewN q) (fun i _ => (intOf i + 1).toNat)
    case atStart => exact ⟨P.length, _, Nat.le_refl _, by omega, rfl, Lib.hid (fun j h1 h2 => absurd h2 (by omega)), 0, rfl⟩
    case round =>
      obtain ⟨r, z, hr, hz, rfl, hs, q, rfl⟩ := hrel
      rcases Nat.eq_zero_or_pos r with rfl | h0
      · obtain rfl : z = -1 := by omega
        have hfin : Hid (cmpN M N = 0) := Lib.hid (by
          have e : P = Q := lim_ext HL.out fun j hj => hs.out j (Nat.zero_le _) hj
          rw [hM.out, hN.out, e, cmpN_self])
        go_wp2
        go_ret
        exact ⟨ret_int hfin.out.symm, q, rfl⟩
      · obtain ⟨t, rfl⟩ : ∃ t, r = t + 1 := ⟨r - 1, by omega⟩
        obtain rfl : z = (t : Int) := by omega
        obtain ⟨oa, rfl⟩ := HSA.out (by omega)
        obtain ⟨ob, rfl⟩ := HSB.out (by omega)
        have ht : t < P.length := by omega
        have ht2 : t < Q.length := by omega
        have ka := HA.out.cell (j := t) ht
        have kb := HB.out.cell (j := t) ht2
        rcases Nat.lt_trichotomy (lim P t) (lim Q t) with h | h | h
        · have hfin : Hid (cmpN M N = -1) := Lib.hid (by rw [hM.out, hN.out]; exact cmpN_lt (val_lt_at (by decide) hP hQ HL.out ht (fun j h1 h2 => hs.out j h1 h2) h))
          go_wp2
          go_quiet (fail)
          go_wp2
          go_ret
          exact ⟨ret_int hfin.out.symm, _, by rw [World.drewN_drewN]⟩
        · have h1 : lim P t ≤ lim Q t := by omega
          have h2 : lim Q t ≤ lim P t := by omega
          have H := Lib.hid h
          clear h
          go_wp2
          go_quiet (fail)
          go_wp2
          go_quiet (fail)
          go_wp2
          go_roundw
          case rel =>
            refine ⟨t, (t : Int) - 1, by omega, by omega, rfl, Lib.hid (fun j h1 h2 => ?_), _, rfl⟩
            rcases Nat.lt_or_ge t j with h3 | h3
            · exact hs.out j h3 h2
            · obtain rfl : j = t := by omega
              exact H.out
          case measure => simp [intOf]
        · have hfin : Hid (cmpN M N = 1) := Lib.hid (by rw [hM.out, hN.out]; exact cmpN_gt (val_lt_at (by decide) hQ hP HL.out.symm ht2 (fun j h1 h2 => (hs.out j h1 (by omega)).symm) h))
          have h1 : ¬ (lim P t < lim Q t) := by omega
          go_wp2
          go_quiet (fail)
          go_wp2
          go_quiet (fail)
          go_wp2
          go_ret
          exact ⟨ret_int hfin.out.symm, _, by rw [World.drewN_drewN, World.drewN_drewN]⟩
  · have hd : ((P.length : Int) != (Q.length : Int)) = true := by simp; omega
    have hd' : (P.length != Q.length) = true := by simp; omega
    rcases Nat.lt_or_ge P.length Q.length with h | h
    · have hfin : Hid (cmpN M N = -1) := Lib.hid (by rw [hM.out, hN.out]; exact cmpN_lt (low_length_lt (by decide) hP HQC.out h))
      clear hl
      go_enter Try.func43, Try.ntmps43
      go_wp2
      go_ret
      exact ⟨ret_int hfin.out.symm, 0, rfl⟩
    · have h' : Q.length < P.length := by omega
      have hfin : Hid (cmpN M N = 1) := Lib.hid (by rw [hM.out, hN.out]; exact cmpN_gt (low_length_lt (by decide) hQ HPC.out h'))
      clear hl
      go_enter Try.func43, Try.ntmps43
      go_wp2
      go_ret
      exact ⟨ret_int hfin.out.symm, 0, rfl⟩
end Go.Proofs.Ytgobclmihppopab

/- vernierref01.Sub: how far two of the document's own naturals are apart. -/
namespace Go.Proofs.Ytgobclmihppopab
open Go.RowKit Go.Shelf

/-- the digits of a difference, one by one: (what has been told, what is borrowed) -/
def dif16 (P Q : List Nat) : Nat → List Nat × Nat
  | 0 => ([], 0)
  | k + 1 => ((dif16 P Q k).1 ++ [(lim P k + 65536 - lim Q k - (dif16 P Q k).2) % 65536], if lim P k < lim Q k + (dif16 P Q k).2 then 1 else 0)
set_option maxRecDepth 100000 in
theorem dif16_fine {P Q : List Nat} (hP : Low 65536 P) (hQ : Low 65536 Q) (k : Nat) : (dif16 P Q k).1.length = k ∧ (dif16 P Q k).2 ≤ 1 ∧ Low 65536 (dif16 P Q k).1 ∧
    val 65536 (dif16 P Q k).1 + part 65536 Q k = part 65536 P k + 65536 ^ k * (dif16 P Q k).2 := by
  induction k with
  | zero => exact ⟨rfl, by simp [dif16], (by intro x hx; cases hx), by simp [dif16, val, part]⟩
  | succ k ih =>
    obtain ⟨h1, h2, h3, h4⟩ := ih
    have hp := lim_lt hP (by decide) k
    have hq := lim_lt hQ (by decide) k
    simp only [dif16]
    generalize dif16 P Q k = s at h1 h2 h3 h4 ⊢
    refine ⟨by simp [h1], by split <;> omega, ?_, ?_⟩
    · intro x hx
      rcases List.mem_append.1 hx with h | h
      · exact h3 x h
      · simp at h; subst h; exact Nat.mod_lt _ (by decide)
    · rw [val_append, h1]
      simp only [val, part, Nat.mul_zero, Nat.add_zero]
      have hd : (lim P k + 65536 - lim Q k - s.2) % 65536 + lim Q k + s.2 = lim P k + 65536 * (if lim P k < lim Q k + s.2 then 1 else 0) := by
        split <;> omega
      have hm := congrArg (65536 ^ k * ·) hd
      simp only [Nat.mul_add, ← Nat.mul_assoc] at hm
      rw [Nat.pow_succ]
      omega
set_option maxRecDepth 100000 in
theorem dif16_digs {M N : Nat} (h : N ≤ M) : cutz (dif16 (digs 65536 M) (digs 65536 N) (digs 65536 M).length).1 = digs 65536 (M - N) := by
  have hP := digs_low (B := 65536) (by decide) M
  have hQ := digs_low (B := 65536) (by decide) N
  obtain ⟨f1, f2, f3, f4⟩ := dif16_fine hP hQ (digs 65536 M).length
  have hl : (digs 65536 N).length ≤ (digs 65536 M).length := low_length_le (B := 65536) (by decide) hP (cutz_digs (by decide) N) (by rw [val_digs (by decide), val_digs (by decide)]; exact h)
  rw [part_all, part_ge _ _ _ hl, val_digs (by decide), val_digs (by decide)] at f4
  have h2 := val_lt f3 (by decide)
  rw [f1] at h2
  rw [cutz_eq_digs (by decide) f3]
  generalize dif16 (digs 65536 M) (digs 65536 N) (digs 65536 M).length = s at *
  have h3 : s.2 = 0 ∨ s.2 = 1 := by omega
  rcases h3 with h3 | h3
  · rw [h3] at f4
    congr 1
    omega
  · rw [h3] at f4
    omega

set_option maxRecDepth 100000 in
theorem tmod16 (X : Int) (h1 : -65537 ≤ X) (h2 : X ≤ 65536) : (wrap64 (X.tmod 65536 + 65536)).tmod 65536 = X % 65536 := by
  have hb := Int.tmod_lt_of_pos X (b := 65536) (by decide)
  rcases Int.lt_or_le X 0 with h | h
  · have e : X.tmod 65536 = -((-X) % 65536) := by
      rw [show X = -(-X) by omega, Int.neg_tmod, Int.tmod_eq_emod_of_nonneg (by omega)]
      simp
    rw [e, IntWalk.wrap64_in _ (by omega), Int.tmod_eq_emod_of_nonneg (by omega)]
    omega
  · rw [Int.tmod_eq_emod_of_nonneg h, IntWalk.wrap64_in _ (by omega), Int.tmod_eq_emod_of_nonneg (by omega)]
    omega
set_option maxRecDepth 100000 in
theorem tdiv16 (b : Nat) : (-(65536 * (b : Int))).tdiv 65536 = -(b : Int) := by
  rw [Int.neg_tdiv, Int.mul_tdiv_cancel_left _ (by decide)]
set_option maxRecDepth 100000 in
theorem dif_fit {p q C : Nat} (hp : p < 65536) (hq : q < 65536) (hC : C ≤ 1) :
    (wrap64 ((-(C : Int) + p - q).tmod 65536 + 65536)).tmod 65536 = (((p + 65536 - q - C) % 65536 : Nat) : Int) ∧
      (-(C : Int) + p - q - (((p + 65536 - q - C) % 65536 : Nat) : Int)).tdiv 65536 = -((if p < q + C then 1 else 0 : Nat) : Int) := by
  rw [tmod16 _ (by omega) (by omega)]
  refine ⟨by omega, ?_⟩
  have e : -(C : Int) + p - q - (((p + 65536 - q - C) % 65536 : Nat) : Int) = -(65536 * ((if p < q + C then 1 else 0 : Nat) : Int)) := by split <;> omega
  rw [e, tdiv16]

set_option maxRecDepth 100000 in
set_option maxHeartbeats 2000000 in
/-- the loop, of a number that is not the less one -/
theorem refSub_ge (ba bb : Nat) (va vb : Value) (M N : Nat) (hxl : (digs 65536 M).length ≤ 4398046511104) (hyl : (digs 65536 N).length ≤ 4398046511104) (hge : N ≤ M) (w : World) (hba : ba < w.heap.size) (hbb : bb < w.heap.size) (hA : IAt ba w va (digs 65536 M)) (hB : IAt bb w vb (digs 65536 N)) :
    Calls Try.prog 74 #[va, vb] w fun e w' => ∃ v', e = .returned v' ∧ IArg w' v' (digs 65536 (dist M N)) ∧ Below w.heap.size w w' := by
  have hcmp := refCmp_calls ba bb va vb M N (by omega) (by omega) w hA hB
  obtain ⟨a, cap, rfl, hcap, hsa⟩ := hA.slice
  obtain ⟨b, cbp, rfl, hcbp, hsb⟩ := hB.slice
  have hP := digs_low (B := 65536) (by decide) M
  have hQ := digs_low (B := 65536) (by decide) N
  have hfin : Hid (cutz (dif16 (digs 65536 M) (digs 65536 N) (digs 65536 M).length).1 = digs 65536 (dist M N)) := Lib.hid (by rw [dist_ge hge]; exact dif16_digs hge)
  have hlt0 : ¬ (cmpN M N < 0) := by unfold cmpN; rw [if_neg (by omega)]; split <;> omega
  generalize digs 65536 M = P at *
  generalize digs 65536 N = Q at *
  have HSA := Lib.hid hsa
  have HSB := Lib.hid hsb
  have HA := Lib.hid hA
  have HB := Lib.hid hB
  clear hsa hsb hA hB
  obtain ⟨i0, hi, hz0, hz1, hz2⟩ := info_parts info_int
  go_enter Try.func74, Try.ntmps74
  go_wp2_with fail
  refine hcmp.mono ?_
  rintro e w' ⟨rfl, q, rfl⟩
  clear hcmp
  go_wp2_with fail
  have hB0 : Below w.heap.size w (w.drewN q) := below_drewN _ _ _
  go_loopw [5, 6, 7] (fun o c i wr => ∃ k C : Nat, k ≤ P.length ∧ i = .int .i64 k ∧ C ≤ 1 ∧ Hid (C = (dif16 P Q k).2) ∧ c = .int .i64 (-(C : Int)) ∧ Hid (wr.ownsRow w.heap.size 3 1 o k (ints (dif16 P Q k).1)) ∧ Below w.heap.size w wr) (fun _ _ i _ => P.length + 2 - (intOf i).toNat)
  case atStart => exact ⟨0, 0, by omega, rfl, by omega, Lib.hid rfl, rfl, Lib.hid (by simpa [ints, dif16] using World.ownsRow_nil (w.drewN q) w.heap.size 3 1), hB0⟩
  case round =>
    obtain ⟨k, C, hk, rfl, hC1, hC, rfl, hown, hBw⟩ := hrel
    have hlp := lim_lt hP (by decide) k
    have hlq := lim_lt hQ (by decide) k
    by_cases hp : k < P.length
    · obtain ⟨oa, rfl⟩ := HSA.out (by omega)
      have hca : wr.cell? ⟨ba, oa + k, none⟩ = some (.int .i64 (lim P k : Int)) := (hBw.cell (p := ⟨ba, oa + k, none⟩) hba).trans (HA.out.cell hp)
      by_cases hq : k < Q.length
      · obtain ⟨ob, rfl⟩ := HSB.out (by omega)
        have hcb : wr.cell? ⟨bb, ob + k, none⟩ = some (.int .i64 (lim Q k : Int)) := (hBw.cell (p := ⟨bb, ob + k, none⟩) hbb).trans (HB.out.cell hq)
        have hF := dif_fit hlp hlq hC1
        have hS1 : Hid ((dif16 P Q (k + 1)).1 = (dif16 P Q k).1 ++ [(lim P k + 65536 - lim Q k - C) % 65536]) := Lib.hid (by simp only [dif16]; rw [← hC.out])
        have hS2 : Hid ((dif16 P Q (k + 1)).2 = if lim P k < lim Q k + C then 1 else 0) := Lib.hid (by simp only [dif16]; rw [← hC.out])
        have hdl : (lim P k + 65536 - lim Q k - C) % 65536 < 65536 := Nat.mod_lt _ (by decide)
        have hS3 : (if lim P k < lim Q k + C then 1 else 0 : Nat) ≤ 1 := by split <;> omega
        generalize (lim P k + 65536 - lim Q k - C) % 65536 = d at hF hS1 hdl
        generalize (if lim P k < lim Q k + C then 1 else 0 : Nat) = b2 at hF hS2 hS3
        obtain ⟨hE, hE2⟩ := hF
        go_wp2_with (at_builtin; refine wpList_append_own _ rfl _ _ 52 rfl w.heap.size 3 i0 (.int .i64 0) 1 8 Try.underlying52 hi hz0 hz1 hz2 rfl (by decide) _ _ _ rfl (hown.out.alloc _) ⟨_, 0, none⟩ 1 1 [.int .i64 (d : Int)] rfl rfl (cell_one_new _ _ _) (by intro u hu; simp at hu; subst hu; rfl) (by simp only [maxLen]; omega) (by omega) (by have := hBw.size; simp; omega) ?_; intro v' w1 hown' hgrow _)
        have hown3 : Hid (w1.ownsRow w.heap.size 3 1 v' (k + 1) (ints (dif16 P Q (k + 1)).1)) := Lib.hid (by rw [hS1.out, ← ints_snoc]; exact hown')
        have hB3 : Below w.heap.size w w1 := (hBw.alloc hBw.size (.cells #[.int .i64 (d : Int)] 3)).grown hgrow (by have := hBw.size; simp; omega) (fun g e => (hown.out.lt g e).1)
        clear hown' hgrow
        go_wp2
        go_roundw
        case rel => exact ⟨k + 1, b2, by omega, by simp, hS3, Lib.hid hS2.out.symm, rfl, hown3, hB3⟩
        case measure => simp [intOf]; omega
      · have h0 : Hid (lim Q k = 0) := Lib.hid (lim_ge (by omega))
        have hF := dif_fit hlp hlq hC1
        rw [h0.out] at hF
        simp only [Int.natCast_zero, Int.sub_zero] at hF
        have hS1 : Hid ((dif16 P Q (k + 1)).1 = (dif16 P Q k).1 ++ [(lim P k + 65536 - 0 - C) % 65536]) := Lib.hid (by simp only [dif16]; rw [← hC.out, h0.out])
        have hS2 : Hid ((dif16 P Q (k + 1)).2 = if lim P k < 0 + C then 1 else 0) := Lib.hid (by simp only [dif16]; rw [← hC.out, h0.out])
        have hdl : (lim P k + 65536 - 0 - C) % 65536 < 65536 := Nat.mod_lt _ (by decide)
        have hS3 : (if lim P k < 0 + C then 1 else 0 : Nat) ≤ 1 := by split <;> omega
        generalize (lim P k + 65536 - 0 - C) % 65536 = d at hF hS1 hdl
        generalize (if lim P k < 0 + C then 1 else 0 : Nat) = b2 at hF hS2 hS3
        obtain ⟨hE, hE2⟩ := hF
        go_wp2_with (at_builtin; refine wpList_append_own _ rfl _ _ 52 rfl w.heap.size 3 i0 (.int .i64 0) 1 8 Try.underlying52 hi hz0 hz1 hz2 rfl (by decide) _ _ _ rfl (hown.out.alloc _) ⟨_, 0, none⟩ 1 1 [.int .i64 (d : Int)] rfl rfl (cell_one_new _ _ _) (by intro u hu; simp at hu; subst hu; rfl) (by simp only [maxLen]; omega) (by omega) (by have := hBw.size; simp; omega) ?_; intro v' w1 hown' hgrow _)
        have hown3 : Hid (w1.ownsRow w.heap.size 3 1 v' (k + 1) (ints (dif16 P Q (k + 1)).1)) := Lib.hid (by rw [hS1.out, ← ints_snoc]; exact hown')
        have hB3 : Below w.heap.size w w1 := (hBw.alloc hBw.size (.cells #[.int .i64 (d : Int)] 3)).grown hgrow (by have := hBw.size; simp; omega) (fun g e => (hown.out.lt g e).1)
        clear hown' hgrow
        go_wp2
        go_roundw
        case rel => exact ⟨k + 1, b2, by omega, by simp, hS3, Lib.hid hS2.out.symm, rfl, hown3, hB3⟩
        case measure => simp [intOf]; omega
    · obtain rfl : k = P.length := by omega
      have h4 := hown.out
      obtain ⟨S, hS, hr⟩ := own_arg h4 (Nat.lt_of_lt_of_le hba hBw.size)
      obtain ⟨f1, _, _, _⟩ := dif16_fine hP hQ P.length
      have hl : (dif16 P Q P.length).1.length ≤ 9223372036854775806 := by omega
      have HR := Lib.hid hr
      obtain ⟨xa, xc, rfl, _, _⟩ := hr.slice
      clear hr h4 f1
      go_wp2_with (go_at_call 70; refine (cut_calls S _ (dif16 P Q P.length).1 hl _ HR.out).mono ?_; rintro e w' ⟨v', rfl, h7, rfl⟩)
      go_ret
      exact ⟨_, rfl, ⟨S, hS, by rw [← hfin.out]; exact h7⟩, hBw⟩
set_option maxRecDepth 100000 in
set_option maxHeartbeats 2000000 in
/-- the loop, of a number that is the less one: they change places -/
theorem refSub_lt (ba bb : Nat) (va vb : Value) (M N : Nat) (hxl : (digs 65536 M).length ≤ 4398046511104) (hyl : (digs 65536 N).length ≤ 4398046511104) (hlt : M < N) (w : World) (hba : ba < w.heap.size) (hbb : bb < w.heap.size) (hA : IAt ba w va (digs 65536 M)) (hB : IAt bb w vb (digs 65536 N)) :
    Calls Try.prog 74 #[va, vb] w fun e w' => ∃ v', e = .returned v' ∧ IArg w' v' (digs 65536 (dist M N)) ∧ Below w.heap.size w w' := by
  have hcmp := refCmp_calls ba bb va vb M N (by omega) (by omega) w hA hB
  have hxy : ba = ba := rfl
  clear hxy
  obtain ⟨a, cap, rfl, hcap, hsa⟩ := hA.slice
  obtain ⟨b, cbp, rfl, hcbp, hsb⟩ := hB.slice
  have hP := digs_low (B := 65536) (by decide) N
  have hQ := digs_low (B := 65536) (by decide) M
  have hfin : Hid (cutz (dif16 (digs 65536 N) (digs 65536 M) (digs 65536 N).length).1 = digs 65536 (dist M N)) := Lib.hid (by rw [dist_comm, dist_ge (Nat.le_of_lt hlt)]; exact dif16_digs (Nat.le_of_lt hlt))
  have hlt0 : cmpN M N < 0 := by unfold cmpN; rw [if_pos hlt]; decide
  generalize digs 65536 N = P at *
  generalize digs 65536 M = Q at *
  have HSA := Lib.hid hsb
  have HSB := Lib.hid hsa
  have HA := Lib.hid hB
  have HB := Lib.hid hA
  clear hsa hsb hA hB
  obtain ⟨i0, hi, hz0, hz1, hz2⟩ := info_parts info_int
  go_enter Try.func74, Try.ntmps74
  go_wp2_with fail
  refine hcmp.mono ?_
  rintro e w' ⟨rfl, q, rfl⟩
  clear hcmp
  go_wp2_with fail
  have hB0 : Below w.heap.size w (w.drewN q) := below_drewN _ _ _
  go_loopw [5, 6, 7] (fun o c i wr => ∃ k C : Nat, k ≤ P.length ∧ i = .int .i64 k ∧ C ≤ 1 ∧ Hid (C = (dif16 P Q k).2) ∧ c = .int .i64 (-(C : Int)) ∧ Hid (wr.ownsRow w.heap.size 3 1 o k (ints (dif16 P Q k).1)) ∧ Below w.heap.size w wr) (fun _ _ i _ => P.length + 2 - (intOf i).toNat)
  case atStart => exact ⟨0, 0, by omega, rfl, by omega, Lib.hid rfl, rfl, Lib.hid (by simpa [ints, dif16] using World.ownsRow_nil (w.drewN q) w.heap.size 3 1), hB0⟩
  case round =>
    obtain ⟨k, C, hk, rfl, hC1, hC, rfl, hown, hBw⟩ := hrel
    have hlp := lim_lt hP (by decide) k
    have hlq := lim_lt hQ (by decide) k
    by_cases hp : k < P.length
    · obtain ⟨oa, rfl⟩ := HSA.out (by omega)
      have hca : wr.cell? ⟨bb, oa + k, none⟩ = some (.int .i64 (lim P k : Int)) := (hBw.cell (p := ⟨bb, oa + k, none⟩) hbb).trans (HA.out.cell hp)
      by_cases hq : k < Q.length
      · obtain ⟨ob, rfl⟩ := HSB.out (by omega)
        have hcb : wr.cell? ⟨ba, ob + k, none⟩ = some (.int .i64 (lim Q k : Int)) := (hBw.cell (p := ⟨ba, ob + k, none⟩) hba).trans (HB.out.cell hq)
        have hF := dif_fit hlp hlq hC1
        have hS1 : Hid ((dif16 P Q (k + 1)).1 = (dif16 P Q k).1 ++ [(lim P k + 65536 - lim Q k - C) % 65536]) := Lib.hid (by simp only [dif16]; rw [← hC.out])
        have hS2 : Hid ((dif16 P Q (k + 1)).2 = if lim P k < lim Q k + C then 1 else 0) := Lib.hid (by simp only [dif16]; rw [← hC.out])
        have hdl : (lim P k + 65536 - lim Q k - C) % 65536 < 65536 := Nat.mod_lt _ (by decide)
        have hS3 : (if lim P k < lim Q k + C then 1 else 0 : Nat) ≤ 1 := by split <;> omega
        generalize (lim P k + 65536 - lim Q k - C) % 65536 = d at hF hS1 hdl
        generalize (if lim P k < lim Q k + C then 1 else 0 : Nat) = b2 at hF hS2 hS3
        obtain ⟨hE, hE2⟩ := hF
        go_wp2_with (at_builtin; refine wpList_append_own _ rfl _ _ 52 rfl w.heap.size 3 i0 (.int .i64 0) 1 8 Try.underlying52 hi hz0 hz1 hz2 rfl (by decide) _ _ _ rfl (hown.out.alloc _) ⟨_, 0, none⟩ 1 1 [.int .i64 (d : Int)] rfl rfl (cell_one_new _ _ _) (by intro u hu; simp at hu; subst hu; rfl) (by simp only [maxLen]; omega) (by omega) (by have := hBw.size; simp; omega) ?_; intro v' w1 hown' hgrow _)
        have hown3 : Hid (w1.ownsRow w.heap.size 3 1 v' (k + 1) (ints (dif16 P Q (k + 1)).1)) := Lib.hid (by rw [hS1.out, ← ints_snoc]; exact hown')
        have hB3 : Below w.heap.size w w1 := (hBw.alloc hBw.size (.cells #[.int .i64 (d : Int)] 3)).grown hgrow (by have := hBw.size; simp; omega) (fun g e => (hown.out.lt g e).1)
        clear hown' hgrow
        go_wp2
        go_roundw
        case rel => exact ⟨k + 1, b2, by omega, by simp, hS3, Lib.hid hS2.out.symm, rfl, hown3, hB3⟩
        case measure => simp [intOf]; omega
      · have h0 : Hid (lim Q k = 0) := Lib.hid (lim_ge (by omega))
        have hF := dif_fit hlp hlq hC1
        rw [h0.out] at hF
        simp only [Int.natCast_zero, Int.sub_zero] at hF
        have hS1 : Hid ((dif16 P Q (k + 1)).1 = (dif16 P Q k).1 ++ [(lim P k + 65536 - 0 - C) % 65536]) := Lib.hid (by simp only [dif16]; rw [← hC.out, h0.out])
        have hS2 : Hid ((dif16 P Q (k + 1)).2 = if lim P k < 0 + C then 1 else 0) := Lib.hid (by simp only [dif16]; rw [← hC.out, h0.out])
        have hdl : (lim P k + 65536 - 0 - C) % 65536 < 65536 := Nat.mod_lt _ (by decide)
        have hS3 : (if lim P k < 0 + C then 1 else 0 : Nat) ≤ 1 := by split <;> omega
        generalize (lim P k + 65536 - 0 - C) % 65536 = d at hF hS1 hdl
        generalize (if lim P k < 0 + C then 1 else 0 : Nat) = b2 at hF hS2 hS3
        obtain ⟨hE, hE2⟩ := hF
        go_wp2_with (at_builtin; refine wpList_append_own _ rfl _ _ 52 rfl w.heap.size 3 i0 (.int .i64 0) 1 8 Try.underlying52 hi hz0 hz1 hz2 rfl (by decide) _ _ _ rfl (hown.out.alloc _) ⟨_, 0, none⟩ 1 1 [.int .i64 (d : Int)] rfl rfl (cell_one_new _ _ _) (by intro u hu; simp at hu; subst hu; rfl) (by simp only [maxLen]; omega) (by omega) (by have := hBw.size; simp; omega) ?_; intro v' w1 hown' hgrow _)
        have hown3 : Hid (w1.ownsRow w.heap.size 3 1 v' (k + 1) (ints (dif16 P Q (k + 1)).1)) := Lib.hid (by rw [hS1.out, ← ints_snoc]; exact hown')
        have hB3 : Below w.heap.size w w1 := (hBw.alloc hBw.size (.cells #[.int .i64 (d : Int)] 3)).grown hgrow (by have := hBw.size; simp; omega) (fun g e => (hown.out.lt g e).1)
        clear hown' hgrow
        go_wp2
        go_roundw
        case rel => exact ⟨k + 1, b2, by omega, by simp, hS3, Lib.hid hS2.out.symm, rfl, hown3, hB3⟩
        case measure => simp [intOf]; omega
    · obtain rfl : k = P.length := by omega
      have h4 := hown.out
      obtain ⟨S, hS, hr⟩ := own_arg h4 (Nat.lt_of_lt_of_le hbb hBw.size)
      obtain ⟨f1, _, _, _⟩ := dif16_fine hP hQ P.length
      have hl : (dif16 P Q P.length).1.length ≤ 9223372036854775806 := by omega
      have HR := Lib.hid hr
      obtain ⟨xa, xc, rfl, _, _⟩ := hr.slice
      clear hr h4 f1
      go_wp2_with (go_at_call 70; refine (cut_calls S _ (dif16 P Q P.length).1 hl _ HR.out).mono ?_; rintro e w' ⟨v', rfl, h7, rfl⟩)
      go_ret
      exact ⟨_, rfl, ⟨S, hS, by rw [← hfin.out]; exact h7⟩, hBw⟩
set_option maxRecDepth 100000 in
theorem refSub_calls (ba bb : Nat) (va vb : Value) (M N : Nat) (hxl : (digs 65536 M).length ≤ 4398046511104) (hyl : (digs 65536 N).length ≤ 4398046511104) (w : World) (hba : ba < w.heap.size) (hbb : bb < w.heap.size) (hA : IAt ba w va (digs 65536 M)) (hB : IAt bb w vb (digs 65536 N)) :
    Calls Try.prog 74 #[va, vb] w fun e w' => ∃ v', e = .returned v' ∧ IArg w' v' (digs 65536 (dist M N)) ∧ Below w.heap.size w w' := by
  rcases Nat.lt_or_ge M N with h | h
  · exact refSub_lt ba bb va vb M N hxl hyl h w hba hbb hA hB
  · exact refSub_ge ba bb va vb M N hxl hyl h w hba hbb hA hB
end Go.Proofs.Ytgobclmihppopab

/- vernierref01.Mul: the document's own product. -/
namespace Go.Proofs.Ytgobclmihppopab
open Go.RowKit Go.Shelf

/-- one row of a product, digit by digit: (the digits, what is carried) -/
def row16 (Q : List Nat) (x off : Nat) (s : List Nat) : Nat → List Nat × Nat
  | 0 => (s, 0)
  | k + 1 => ((row16 Q x off s k).1.set (off + k) (((row16 Q x off s k).2 + lim (row16 Q x off s k).1 (off + k) + x * lim Q k) % 65536), ((row16 Q x off s k).2 + lim (row16 Q x off s k).1 (off + k) + x * lim Q k) / 65536)
set_option maxRecDepth 100000 in
theorem mul16_le {x y : Nat} (hx : x < 65536) (hy : y < 65536) : x * y ≤ 4294836225 := Nat.mul_le_mul (show x ≤ 65535 by omega) (show y ≤ 65535 by omega)
set_option maxRecDepth 100000 in
theorem row16_fine {Q s : List Nat} {x : Nat} (off : Nat) (hQ : Low 65536 Q) (hs : Low 65536 s) (hx : x < 65536) (k : Nat) :
    (row16 Q x off s k).1.length = s.length ∧ (row16 Q x off s k).2 < 65536 ∧ Low 65536 (row16 Q x off s k).1 ∧ (∀ i, off + k ≤ i → lim (row16 Q x off s k).1 i = lim s i) := by
  induction k with
  | zero => exact ⟨rfl, by simp [row16], hs, fun _ _ => rfl⟩
  | succ k ih =>
    obtain ⟨h1, h2, h3, h4⟩ := ih
    have hm := mul16_le hx (lim_lt hQ (by decide) k)
    have ho := lim_lt h3 (by decide) (off + k)
    simp only [row16]
    generalize row16 Q x off s k = r at *
    refine ⟨by simp [h1], by omega, low_set h3 (Nat.mod_lt _ (by decide)), fun i hi => ?_⟩
    rw [lim_set, if_neg (by omega)]
    exact h4 i (by omega)
set_option maxRecDepth 100000 in
theorem row16_range {Q s : List Nat} {x off : Nat} (hQ : Low 65536 Q) (hs : Low 65536 s) (hx : x < 65536) (k : Nat) (hk : off + k ≤ s.length) :
    part 65536 (row16 Q x off s k).1 (off + k) + 65536 ^ (off + k) * (row16 Q x off s k).2 = part 65536 s (off + k) + 65536 ^ off * (x * part 65536 Q k) := by
  induction k with
  | zero => simp [part, row16]
  | succ k ih =>
    have hi := ih (by omega)
    obtain ⟨f1, f2, f3, f4⟩ := row16_fine off hQ hs hx k
    have hsk := f4 (off + k) (Nat.le_refl _)
    simp only [row16]
    generalize row16 Q x off s k = r at *
    rw [show off + (k + 1) = off + k + 1 by omega]
    simp only [part]
    rw [part_set_ge (Nat.le_refl _), lim_set, if_pos ⟨rfl, by omega⟩, hsk]
    have hb : (r.2 + lim s (off + k) + x * lim Q k) % 65536 + 65536 * ((r.2 + lim s (off + k) + x * lim Q k) / 65536) = r.2 + lim s (off + k) + x * lim Q k := Nat.mod_add_div _ _
    generalize (r.2 + lim s (off + k) + x * lim Q k) % 65536 = d at hb ⊢
    generalize (r.2 + lim s (off + k) + x * lim Q k) / 65536 = c at hb ⊢
    have hm := congrArg (65536 ^ (off + k) * ·) hb
    simp only [Nat.mul_add] at hm
    have h1 : 65536 ^ (off + k + 1) * c = 65536 ^ (off + k) * (65536 * c) := by rw [Nat.pow_succ, Nat.mul_assoc]
    have h2 : 65536 ^ off * (x * (part 65536 Q k + 65536 ^ k * lim Q k)) = 65536 ^ off * (x * part 65536 Q k) + 65536 ^ (off + k) * (x * lim Q k) := by
      rw [Nat.mul_add x, Nat.mul_add]
      congr 1
      rw [Nat.pow_add, Nat.mul_assoc (65536 ^ off), Nat.mul_left_comm x]
    rw [h1, h2]
    omega
set_option maxRecDepth 100000 in
theorem val_same_above {B : Nat} {xs ys : List Nat} (hl : xs.length = ys.length) {m : Nat} (h : ∀ i, m ≤ i → lim xs i = lim ys i) : val B xs + part B ys m = val B ys + part B xs m := by
  rcases Nat.le_total xs.length m with hm | hm
  · rw [part_ge B xs m hm, part_ge B ys m (by omega)]
    omega
  · have key : ∀ t, part B xs (m + t) + part B ys m = part B ys (m + t) + part B xs m := by
      intro t
      induction t with
      | zero => simp; omega
      | succ t ih => rw [show m + (t + 1) = m + t + 1 by omega, part, part, h (m + t) (by omega)]; omega
    have := key (xs.length - m)
    rw [show m + (xs.length - m) = xs.length by omega, part_all] at this
    rw [hl, part_all] at this
    exact this
set_option maxRecDepth 100000 in
theorem row16_end {Q s : List Nat} {x off : Nat} (hQ : Low 65536 Q) (hs : Low 65536 s) (hx : x < 65536) (k : Nat) (hk : off + k ≤ s.length) (hkQ : Q.length ≤ k) (h0 : (row16 Q x off s k).2 = 0) :
    val 65536 (row16 Q x off s k).1 = val 65536 s + 65536 ^ off * (x * val 65536 Q) := by
  have h1 := row16_range hQ hs hx k hk
  obtain ⟨f1, f2, f3, f4⟩ := row16_fine off hQ hs hx k
  have h2 := val_same_above (B := 65536) f1 f4
  rw [h0, part_ge _ Q k hkQ] at h1
  omega
/-- what holds of the digits when i rows are in -/
def Mul16 (P Q : List Nat) (i : Nat) (s : List Nat) : Prop := s.length = P.length + Q.length + 1 ∧ Low 65536 s ∧ val 65536 s = part 65536 P i * val 65536 Q ∧ ∀ j, i + Q.length ≤ j → lim s j = 0
set_option maxRecDepth 100000 in
theorem mul16_zero (P Q : List Nat) : Mul16 P Q 0 (List.replicate (P.length + Q.length + 1) 0) :=
  ⟨by simp, low_rep (by decide), by rw [val_zeros _ _ (fun x hx => List.eq_of_mem_replicate hx)]; simp [part], fun j _ => by simp [lim, List.getElem?_replicate]; split <;> rfl⟩
set_option maxRecDepth 100000 in
theorem mul16_step {P Q s : List Nat} {i k : Nat} (hP : Low 65536 P) (hQ : Low 65536 Q) (h : Mul16 P Q i s) (hi : i < P.length) (hk1 : Q.length ≤ k) (hk2 : k ≤ Q.length + 1) (h0 : (row16 Q (lim P i) i s k).2 = 0) : Mul16 P Q (i + 1) (row16 Q (lim P i) i s k).1 := by
  obtain ⟨g1, g2, g3, g4⟩ := h
  have hx := lim_lt hP (by decide) i
  obtain ⟨f1, f2, f3, f4⟩ := row16_fine (s := s) i hQ g2 hx k
  refine ⟨by omega, f3, ?_, fun j hj => ?_⟩
  · rw [row16_end hQ g2 hx k (by omega) hk1 h0, g3, part, Nat.add_mul, Nat.mul_assoc]
  · rw [f4 j (by omega)]
    exact g4 j (by omega)
set_option maxRecDepth 100000 in
theorem mul16_digs {M N : Nat} {s : List Nat} (h : Mul16 (digs 65536 M) (digs 65536 N) (digs 65536 M).length s) : cutz s = digs 65536 (M * N) := by
  obtain ⟨_, g2, g3, _⟩ := h
  rw [cutz_eq_digs (by decide) g2, g3, part_all, val_digs (by decide), val_digs (by decide)]

set_option maxRecDepth 100000 in
/-- make(N, n) -/
theorem make_N (n : Nat) (hn : n ≤ 35184372088832) (u : World) : (Instr.makeSlice 52 (.int .i64 (n : Int)) (.int .i64 (n : Int))).run Try.prog u =
    .ok (.slice (some ⟨u.heap.size, 0, none⟩) n n) (u.alloc (.cells (cellsOf .i64 (List.replicate n 0)) 3)) := by
  obtain ⟨i0, hi, hz0, hz1, hz2⟩ := info_parts info_int
  have h := run_make (P := Try.prog) u 52 3 i0 (.int .i64 0) Try.underlying52 hi hz0 .i64 .i64 n n (by omega) (Int.le_refl _) (by rw [hz2]; omega) (by omega)
  rw [h, hz1]
  simp [Value.cells, made_cells]
set_option maxRecDepth 100000 in
theorem Row.drewN {k : IntKind} {t : TypeId} {W : World} {S : Nat} {s : List Nat} (h : Row k t W S s) (q : Nat) : Row k t (W.drewN q) S s := h
set_option maxRecDepth 100000 in
theorem Row.iat {t : TypeId} {W : World} {S : Nat} {s : List Nat} (h : Row .i64 t W S s) (cap : Nat) (hc : s.length ≤ cap) : IAt S W (.slice (some ⟨S, 0, none⟩) s.length cap) s :=
  .inr ⟨0, cap, rfl, hc, fun j hj => by rw [Nat.zero_add]; exact h.cell hj⟩
def Inner (Q s : List Nat) (x i k C : Nat) (st : List Nat) : Prop := row16 Q x i s k = (st, C)

set_option maxRecDepth 100000 in
set_option maxHeartbeats 4000000 in
theorem refMul_calls (ba bb : Nat) (va vb : Value) (M N : Nat) (hxl : (digs 65536 M).length ≤ 4398046511104) (hyl : (digs 65536 N).length ≤ 4398046511104) (w : World) (hba : ba < w.heap.size) (hbb : bb < w.heap.size) (hA : IAt ba w va (digs 65536 M)) (hB : IAt bb w vb (digs 65536 N)) :
    Calls Try.prog 48 #[va, vb] w fun e w' => ∃ v', e = .returned v' ∧ IArg w' v' (digs 65536 (M * N)) ∧ Below w.heap.size w w' := by
  obtain ⟨a, cap, rfl, hcap, hsa⟩ := hA.slice
  obtain ⟨b, cbp, rfl, hcbp, hsb⟩ := hB.slice
  have hP := digs_low (B := 65536) (by decide) M
  have hQ := digs_low (B := 65536) (by decide) N
  have hfin : Hid (∀ s, Mul16 (digs 65536 M) (digs 65536 N) (digs 65536 M).length s → cutz s = digs 65536 (M * N)) := Lib.hid (fun s h => mul16_digs h)
  generalize digs 65536 M = P at *
  generalize digs 65536 N = Q at *
  have HSA := Lib.hid hsa
  have HSB := Lib.hid hsb
  have HA := Lib.hid hA
  have HB := Lib.hid hB
  clear hsa hsb hA hB
  have hmk : ∀ u : World, (Instr.makeSlice 52 (.int .i64 ((P.length : Int) + (Q.length : Int) + 1)) (.int .i64 ((P.length : Int) + (Q.length : Int) + 1))).run Try.prog u = .ok (.slice (some ⟨u.heap.size, 0, none⟩) (P.length + Q.length + 1) (P.length + Q.length + 1)) (u.alloc (.cells (cellsOf .i64 (List.replicate (P.length + Q.length + 1) 0)) 3)) := make_N (P.length + Q.length + 1) (by omega)
  go_enter Try.func48, Try.ntmps48
  go_wp2
  clear hmk
  have hr0 : Row .i64 3 (w.alloc (.cells (cellsOf .i64 (List.replicate (P.length + Q.length + 1) 0)) 3)) w.heap.size (List.replicate (P.length + Q.length + 1) 0) := Row.new w .i64 3 _
  have hB0 : Below w.heap.size w (w.alloc (.cells (cellsOf .i64 (List.replicate (P.length + Q.length + 1) 0)) 3)) := (Below.refl _ w).alloc (Nat.le_refl _) _
  generalize (w.alloc (.cells (cellsOf .i64 (List.replicate (P.length + Q.length + 1) 0)) 3)) = W1 at *
  go_loopw [6, 7, 8] (fun i _ _ wr => ∃ (m : Nat) (s : List Nat), m ≤ P.length ∧ i = .int .i64 m ∧ Row .i64 3 wr w.heap.size s ∧ Hid (Mul16 P Q m s) ∧ Below w.heap.size w wr) (fun i _ _ _ => P.length - (intOf i).toNat)
  case atStart => exact ⟨0, _, by omega, rfl, hr0, Lib.hid (mul16_zero P Q), hB0⟩
  case round =>
    obtain ⟨m, s, hm, rfl, hr, hM, hBw⟩ := hrel
    clear hr0 hB0
    by_cases hlt : m < P.length
    · obtain ⟨oa, rfl⟩ := HSA.out (by omega)
      obtain ⟨wo, rfl⟩ : ∃ wo : World, wo = wr := ⟨_, rfl⟩
      have hxm := lim_lt hP (by decide) m
      have hcx := HA.out.cell hlt
      obtain ⟨hsl, hslow, _, hz⟩ := hM.out
      have HSL := Lib.hid hsl
      clear hsl
      have hsle : s.length ≤ P.length + Q.length + 1 ∧ P.length + Q.length + 1 ≤ s.length := by rw [HSL.out]; omega
      have HZ := Lib.hid hz
      clear hz
      generalize hxe : lim P m = x at *
      have HX := Lib.hid hxe
      clear hxe
      go_wp2
      go_loopw [7, 8] (fun c j wi => ∃ (k C : Nat) (st : List Nat), k ≤ Q.length + 1 ∧ (k ≤ Q.length ∨ C = 0) ∧ C < 65536 ∧ j = .int .i64 k ∧ c = .int .i64 C ∧ Inner Q s x m k C st ∧ Row .i64 3 wi w.heap.size st ∧ Below w.heap.size w wi) (fun _ j _ => Q.length + 1 - (intOf j).toNat)
      case atStart => exact ⟨0, 0, s, by omega, .inl (by omega), by omega, rfl, rfl, rfl, hr, hBw⟩
      case round =>
        obtain ⟨k, C, st, hk, hkC, hC, rfl, rfl, hin, hri, hBi⟩ := hrel
        obtain ⟨f1, f2, f3, f4⟩ := row16_fine (s := s) m hQ hslow hxm k
        rw [show row16 Q x m s k = (st, C) from hin] at f1 f2 f3 f4
        simp only at f1 f2 f3 f4
        have hsti : m + k < st.length := by omega
        have hsle2 : st.length ≤ s.length ∧ s.length ≤ st.length := by omega
        have ho := lim_lt f3 (by decide) (m + k)
        have hco := hri.cell hsti
        have hfo := hri.frozen (m + k)
        have HF4 := Lib.hid f4
        clear f1 f4
        have hstep : Hid (row16 Q x m s (k + 1) = (st.set (m + k) ((C + lim st (m + k) + x * lim Q k) % 65536), (C + lim st (m + k) + x * lim Q k) / 65536)) := Lib.hid (by
          simp only [row16]; rw [show row16 Q x m s k = (st, C) from hin])
        by_cases hq : k < Q.length
        · obtain ⟨ob, rfl⟩ := HSB.out (by omega)
          have hqk := lim_lt hQ (by decide) k
          have hcq := HB.out.cell hq
          have hca' : wr.cell? ⟨ba, oa + m, none⟩ = some (.int .i64 (x : Int)) := (hBi.cell (p := ⟨ba, oa + m, none⟩) hba).trans hcx
          have hcb' : wr.cell? ⟨bb, ob + k, none⟩ = some (.int .i64 (lim Q k : Int)) := (hBi.cell (p := ⟨bb, ob + k, none⟩) hbb).trans hcq
          clear hcq
          have hmu := mul16_le hxm hqk
          generalize lim Q k = y at *
          generalize lim st (m + k) = o at *
          have hxy : 0 ≤ (x : Int) * (y : Int) ∧ (x : Int) * (y : Int) ≤ 4294836225 := by
            rw [← Int.natCast_mul]; omega
          have hw1 : IntKind.i64.wrap ((x : Int) * (y : Int)) = (x : Int) * (y : Int) := IntWalk.i64_in _ (by omega)
          have hw2 : IntKind.i64.wrap ((C : Int) + (o : Int) + (x : Int) * (y : Int)) = ((C + o + x * y : Nat) : Int) := by
            rw [IntWalk.i64_in _ (by omega)]; simp
          have ht : C + o + x * y ≤ 4294967295 := by omega
          generalize C + o + x * y = t at *
          go_wp2
          go_quiet (fail)
          clear hw1 hw2 hxy
          have hnr := (hri.drewN nq).set (m + k) (t % 65536)
          have hnB : Below w.heap.size w ((wr.drewN nq).setCell ⟨w.heap.size, m + k, none⟩ (.int .i64 ((t % 65536 : Nat) : Int))) := (hBi.trans (below_drewN _ _ nq)).setCell (p := ⟨w.heap.size, m + k, none⟩) (Nat.le_refl _) _
          go_wp2
          go_roundw
          case rel => exact ⟨k + 1, t / 65536, st.set (m + k) (t % 65536), by omega, .inl (by omega), by omega, by go_num, by go_num, hstep.out, hnr, hnB⟩
          case measure => simp [intOf]; omega
        · have hq0 : Hid (lim Q k = 0) := Lib.hid (lim_ge (by omega))
          have ho0 : Hid (lim st (m + k) = 0) := Lib.hid (by rw [HF4.out (m + k) (Nat.le_refl _)]; exact HZ.out (m + k) (by omega))
          by_cases hc0 : 0 < C
          · have hkQ : k ≤ Q.length := by omega
            generalize lim st (m + k) = o at *
            have hst2 : Hid (row16 Q x m s (k + 1) = (st.set (m + k) ((C + o) % 65536), 0)) := Lib.hid (by rw [hstep.out, hq0.out, ho0.out]; simp only [Nat.mul_zero, Nat.add_zero, Nat.div_eq_of_lt hC])
            have hdz : ((C : Int) + (o : Int)) / 65536 = 0 := by rw [ho0.out]; omega
            have hnr := hri.set (m + k) ((C + o) % 65536)
            have hnB : Below w.heap.size w (wr.setCell ⟨w.heap.size, m + k, none⟩ (.int .i64 (((C + o) % 65536 : Nat) : Int))) := hBi.setCell (p := ⟨w.heap.size, m + k, none⟩) (Nat.le_refl _) _
            go_wp2
            go_roundw
            case rel => exact ⟨k + 1, 0, st.set (m + k) ((C + o) % 65536), by omega, .inr rfl, by omega, by go_num, by first | rfl | go_num, hst2.out, by first | exact hnr | simpa using hnr, by first | exact hnB | simpa using hnB⟩
            case measure => simp [intOf]; omega
          · obtain rfl : C = 0 := by omega
            have hMs : Hid (Mul16 P Q (m + 1) st) := Lib.hid (by
              have h1 := mul16_step (k := k) hP hQ hM.out hlt (by omega) hk (by rw [HX.out, show row16 Q x m s k = (st, 0) from hin])
              rw [HX.out, show row16 Q x m s k = (st, 0) from hin] at h1
              exact h1)
            go_wp2
            go_roundw
            case rel => exact ⟨m + 1, st, by omega, by go_num, hri, hMs, hBi⟩
            case measure => simp [intOf]; omega
    · obtain rfl : m = P.length := by omega
      have HF := Lib.hid (hfin.out s hM.out)
      have hlt2 := hr.lt
      have hsl : s.length = P.length + Q.length + 1 := hM.out.1
      have hl : s.length ≤ 9223372036854775806 := by omega
      have HR : Hid (IAt w.heap.size wr (.slice (some ⟨w.heap.size, 0, none⟩) (P.length + Q.length + 1) (P.length + Q.length + 1)) s) := Lib.hid (by
        have := hr.iat (P.length + Q.length + 1) (by omega)
        rwa [hsl] at this)
      clear hsl
      go_wp2_with (go_at_call 70; refine (cut_calls w.heap.size _ s hl _ HR.out).mono ?_; rintro e w' ⟨v', rfl, h7, rfl⟩)
      go_ret
      exact ⟨_, rfl, ⟨w.heap.size, hlt2, by rw [← HF.out]; exact h7⟩, hBw⟩
end Go.Proofs.Ytgobclmihppopab

/- The document's own naturals, said of numbers; and more of the program's calls, said of numbers. -/
namespace Go.Proofs.Ytgobclmihppopab
open Go.RowKit Go.Shelf

/-- v is told as the number N of the document's own, in at most k digits -/
def RN (w : World) (v : Value) (N k : Nat) : Prop := IArg w v (digs 65536 N) ∧ N < 65536 ^ k
set_option maxRecDepth 100000 in
theorem RN.behind {w w' : World} {v : Value} {N k : Nat} (h : RN w v N k) (hb : Below w.heap.size w w') : RN w' v N k := ⟨h.1.behind hb, h.2⟩
set_option maxRecDepth 100000 in
theorem RN.len {w : World} {v : Value} {N k : Nat} (h : RN w v N k) : (digs 65536 N).length ≤ k := digs_length (by decide) h.2
set_option maxRecDepth 100000 in
theorem RN.slice {w : World} {v : Value} {N k : Nat} (h : RN w v N k) : ∃ a cap, v = .slice a (digs 65536 N).length cap ∧ (digs 65536 N).length ≤ cap := by
  obtain ⟨⟨S, _, h2⟩, _⟩ := h
  obtain ⟨a, cap, e, h3, _⟩ := h2.slice
  exact ⟨a, cap, e, h3⟩
set_option maxRecDepth 100000 in
theorem pow16_64 (k : Nat) : 18446744073709551616 ^ k = 65536 ^ (4 * k) := by rw [Nat.pow_mul]
set_option maxRecDepth 100000 in
theorem rpow_add_lt {M N i j : Nat} (hM : M < 65536 ^ i) (hN : N < 65536 ^ j) : M + N < 65536 ^ (i + j + 1) := by
  have h1 : 65536 ^ i ≤ 65536 ^ (i + j) := Nat.pow_le_pow_right (by decide) (by omega)
  have h2 : 65536 ^ j ≤ 65536 ^ (i + j) := Nat.pow_le_pow_right (by decide) (by omega)
  rw [Nat.pow_succ]
  omega
set_option maxRecDepth 100000 in
theorem rpow_mul_lt {M N i j : Nat} (hM : M < 65536 ^ i) (hN : N < 65536 ^ j) : M * N < 65536 ^ (i + j) := by
  rw [Nat.pow_add]
  exact Nat.mul_lt_mul'' hM hN
set_option maxRecDepth 100000 in
theorem rpow_dist_lt {M N i j : Nat} (hM : M < 65536 ^ i) (hN : N < 65536 ^ j) : dist M N < 65536 ^ (i + j) := by
  have h1 : 65536 ^ i ≤ 65536 ^ (i + j) := Nat.pow_le_pow_right (by decide) (by omega)
  have h2 : 65536 ^ j ≤ 65536 ^ (i + j) := Nat.pow_le_pow_right (by decide) (by omega)
  unfold dist
  omega
section
variable {va vb : Value} {M N i j : Nat} {w : World}
set_option maxRecDepth 100000 in
theorem of_num (hA : Num w va M i) (hi : i ≤ 4398046511104) :
    Calls Try.prog 38 #[va] w fun e W' => ∃ v, e = .returned v ∧ RN W' v M (4 * i) ∧ Below w.heap.size w W' := by
  have hlt := hA.lt
  rw [pow16_64] at hlt
  obtain ⟨xs, ⟨b, h1, h2⟩, h3, rfl, h4⟩ := hA
  exact (of_calls b va xs (by omega) h3 w h1 h2).mono fun e W' ⟨v, he, hr, hb⟩ => ⟨v, he, ⟨hr, hlt⟩, hb⟩
set_option maxRecDepth 100000 in
theorem limbs_num (hA : RN w va M i) (hi : i ≤ 70368744177664) :
    Calls Try.prog 45 #[va] w fun e W' => ∃ v, e = .returned v ∧ New w.heap.size W' v (digs 18446744073709551616 M) ∧ Below w.heap.size w W' := by
  have hl := hA.len
  obtain ⟨⟨S, h1, h2⟩, _⟩ := hA
  exact limbs_calls S va M (by omega) w h1 h2
set_option maxRecDepth 100000 in
theorem radd_num (hA : RN w va M i) (hB : RN w vb N j) (hi : i ≤ 4398046511104) (hj : j ≤ 4398046511104) :
    Calls Try.prog 75 #[va, vb] w fun e W' => ∃ v, e = .returned v ∧ RN W' v (M + N) (i + j + 1) ∧ Below w.heap.size w W' := by
  have hl := hA.len
  have hm := hB.len
  obtain ⟨⟨S, h1, h2⟩, h3⟩ := hA
  obtain ⟨⟨T, k1, k2⟩, k3⟩ := hB
  exact (refAdd_calls S T va vb M N (by omega) (by omega) w h1 k1 h2 k2).mono fun e W' ⟨v, he, hr, hb⟩ => ⟨v, he, ⟨hr, rpow_add_lt h3 k3⟩, hb⟩
set_option maxRecDepth 100000 in
theorem rsub_num (hA : RN w va M i) (hB : RN w vb N j) (hi : i ≤ 4398046511104) (hj : j ≤ 4398046511104) :
    Calls Try.prog 74 #[va, vb] w fun e W' => ∃ v, e = .returned v ∧ RN W' v (dist M N) (i + j) ∧ Below w.heap.size w W' := by
  have hl := hA.len
  have hm := hB.len
  obtain ⟨⟨S, h1, h2⟩, h3⟩ := hA
  obtain ⟨⟨T, k1, k2⟩, k3⟩ := hB
  exact (refSub_calls S T va vb M N (by omega) (by omega) w h1 k1 h2 k2).mono fun e W' ⟨v, he, hr, hb⟩ => ⟨v, he, ⟨hr, rpow_dist_lt h3 k3⟩, hb⟩
set_option maxRecDepth 100000 in
theorem rmul_num (hA : RN w va M i) (hB : RN w vb N j) (hi : i ≤ 4398046511104) (hj : j ≤ 4398046511104) :
    Calls Try.prog 48 #[va, vb] w fun e W' => ∃ v, e = .returned v ∧ RN W' v (M * N) (i + j) ∧ Below w.heap.size w W' := by
  have hl := hA.len
  have hm := hB.len
  obtain ⟨⟨S, h1, h2⟩, h3⟩ := hA
  obtain ⟨⟨T, k1, k2⟩, k3⟩ := hB
  exact (refMul_calls S T va vb M N (by omega) (by omega) w h1 k1 h2 k2).mono fun e W' ⟨v, he, hr, hb⟩ => ⟨v, he, ⟨hr, rpow_mul_lt h3 k3⟩, hb⟩
set_option maxRecDepth 100000 in
theorem rcmp_num (hA : RN w va M i) (hB : RN w vb N j) (hi : i ≤ 4398046511104) (hj : j ≤ 4398046511104) :
    Calls Try.prog 43 #[va, vb] w fun e W' => e = .returned (.int .i64 (cmpN M N)) ∧ Below w.heap.size w W' := by
  have hl := hA.len
  have hm := hB.len
  obtain ⟨⟨S, h1, h2⟩, h3⟩ := hA
  obtain ⟨⟨T, k1, k2⟩, k3⟩ := hB
  exact (refCmp_calls S T va vb M N (by omega) (by omega) w h2 k2).mono fun e W' ⟨he, q, hq⟩ => ⟨he, hq ▸ below_drewN _ _ _⟩
set_option maxRecDepth 100000 in
theorem rbits_num (hA : RN w va M i) (hi : i ≤ 70368744177664) :
    Calls Try.prog 64 #[va] w fun e W' => e = .returned (.int .i64 (nbits M : Int)) ∧ Below w.heap.size w W' := by
  have hl := hA.len
  obtain ⟨⟨S, h1, h2⟩, h3⟩ := hA
  exact (refBits_calls S va M (by omega) w h2).mono fun e W' ⟨he, hw⟩ => ⟨he, hw ▸ Below.refl _ _⟩
end
end Go.Proofs.Ytgobclmihppopab
