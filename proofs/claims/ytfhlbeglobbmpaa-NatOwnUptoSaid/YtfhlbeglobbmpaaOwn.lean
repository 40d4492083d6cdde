/- vernierlaw01.NatOwn: true, whatever the two lists: what is handed in stays, what is told shares nothing with it. -/
import Derived.Test.YtfhlbeglobbmpaaRNums
import Derived.Laws.AppendOwnNone
import Derived.Deep.DeepCutAuto
import Derived.Deep.RegionHeld3
import Derived.Outline
namespace Go.Proofs.Ytfhlbeglobbmpaa
open Go.RowKit Go.Shelf

theorem num_of {w : World} {v : Value} {xs : List Nat} {k : Nat} (h : Arg w v xs) (hl : Low 18446744073709551616 xs) (hk : xs.length ≤ k) : Num w v (val 18446744073709551616 xs) k := ⟨xs, h, hl, rfl, hk⟩
theorem num_nil {w : World} {v : Value} {N k : Nat} (h : Num w v N k) : Num w (.slice none 0 0) 0 0 := by
  obtain ⟨_, ⟨b, hb, _⟩, _⟩ := h
  exact ⟨[], ⟨b, hb, .inl ⟨⟨_, _, rfl⟩, rfl⟩⟩, (by intro x hx; cases hx), rfl, by simp⟩
theorem num_one (w : World) : Num (w.alloc (.cells #[.int .u64 1] 38)) (.slice (some ⟨w.heap.size, 0, none⟩) 1 1) 1 1 :=
  ⟨[1], ⟨w.heap.size, by simp, (Row.new w .u64 38 [1]).rd 1 (by simp)⟩, (by intro x hx; simp at hx; omega), by simp [val], by simp⟩
/-- the list x, made by the call itself: its block is known whole -/
def Copied (base : Nat) (W : World) (v : Value) (xs : List Nat) : Prop := W.ownsRow base 38 1 v xs.length (wordsV xs)
theorem Copied.arg {base : Nat} {W w : World} {v : Value} {xs : List Nat} (h : Copied base W v xs) (hb : Below w.heap.size w W) (h0 : 0 < w.heap.size) : Arg W v xs := by
  rcases ownsRow_rd h with ⟨rfl, rfl⟩ | ⟨S, _, h2, h3⟩
  · exact ⟨0, Nat.lt_of_lt_of_le h0 hb.size, .inl ⟨⟨_, _, rfl⟩, rfl⟩⟩
  · exact ⟨S, h2, h3⟩

theorem region_plain {P : Program} {id : Nat} {ops : Array Oper} {Q : Exit → Act → World → Prop} {a : Act} {w : World} (hm : P.follows .mixedOrders = true)
    (S : World → Prop) (hS : S w.drew) (h : S w.drew → wpAnyH P .any ops Q S ops.size (Array.replicate ops.size false) a w.drew) : (Code.region id ops true).wp P Q a w :=
  wp_region_any hm (wpAny_of_held _ _ _ _ (h hS))
/-- a block is known whole -/
def Blk (W : World) (k : Nat) (o : Obj) : Prop := W.heap[k]? = some o
theorem Blk.lt {W : World} {k : Nat} {o : Obj} (h : Blk W k o) : k < W.heap.size := (Array.getElem?_eq_some_iff.1 h).1
theorem Blk.behind {W W' : World} {k : Nat} {o : Obj} (h : Blk W k o) (hb : Below W.heap.size W W') : Blk W' k o := (hb.block k h.lt).trans h
theorem Blk.off {W W' : World} {g k : Nat} {o : Obj} (h : Blk W k o) (ho : Off g W W') (hk : k ≠ g) : Blk W' k o := (ho.block k h.lt hk).trans h
/-- the list x is as it came in, from place k on -/
def XB (xs : List Nat) (g : Nat) (W : World) (k : Nat) : Prop := xs = [] ∨ ∃ cur, xs.length ≤ cur.size ∧ W.heap[g]? = some (.cells cur 38 (0, 0)) ∧ ∀ j, k ≤ j → j < xs.length → cur[j]? = some (.int .u64 (lim xs j : Int))
theorem XB.set {xs : List Nat} {g k : Nat} {W : World} (h : XB xs g W k) (u : Value) : XB xs g (W.setCell ⟨g, k, none⟩ u) (k + 1) := by
  rcases h with h | ⟨cur, h1, h2, h3⟩
  · exact .inl h
  · refine .inr ⟨cur.setIfInBounds k u, by simpa using h1, ?_, fun j hj hl => ?_⟩
    · simp [World.setCell, Array.getElem?_modify, h2]
    · rw [Array.getElem?_setIfInBounds, if_neg (by omega)]
      exact h3 j (by omega) hl
theorem XB.behind {xs : List Nat} {g k : Nat} {W W' : World} (h : XB xs g W k) (hg : g < W.heap.size) (hb : Below W.heap.size W W') : XB xs g W' k := by
  rcases h with h | ⟨cur, h1, h2, h3⟩
  · exact .inl h
  · exact .inr ⟨cur, h1, (hb.block g hg).trans h2, h3⟩
theorem XB.cell {xs : List Nat} {g k : Nat} {W : World} (h : XB xs g W k) (hk : k < xs.length) : W.cell? ⟨g, k, none⟩ = some (.int .u64 (lim xs k : Int)) ∧ W.frozen? ⟨g, k, none⟩ = false := by
  rcases h with h | ⟨cur, h1, h2, h3⟩
  · subst h; simp at hk
  · exact ⟨by rw [cell_of_row W g k _ _ (0, 0) h2, h3 k (Nat.le_refl _) hk], by simp [World.frozen?, h2]⟩
theorem Copied.xb {base : Nat} {W : World} {sa : Option Addr} {n sc : Nat} {xs : List Nat} (h : Copied base W (.slice sa n sc) xs) (hb : base < W.heap.size) : ∃ g, base ≤ g ∧ g < W.heap.size ∧ XB xs g W 0 ∧ (0 < xs.length → sa = some ⟨g, 0, none⟩ ∧ xs.length ≤ sc) := by
  rcases h.2 with ⟨h1, h2⟩ | ⟨g, cap, cur, h1, h2, h3, h4, h5, h6, h7⟩
  · have : xs = [] := List.eq_nil_of_length_eq_zero h2
    exact ⟨base, Nat.le_refl _, hb, .inl this, fun h => by rw [this] at h; simp at h⟩
  · injection h1 with e1 e2 e3
    subst e1 e3
    refine ⟨g, h2, (Array.getElem?_eq_some_iff.1 h3).1, .inr ⟨cur, by omega, h3, fun j _ hj => ?_⟩, fun _ => ⟨rfl, h4⟩⟩
    have h8 : (cur.toList.take (xs.length * 1))[j]? = (wordsV xs)[j]? := by rw [h7]
    rw [List.getElem?_take_of_lt (by omega)] at h8
    rw [← Array.getElem?_toList, h8]
    simp [wordsV, lim, List.getElem?_eq_getElem hj]
theorem New.off {n g : Nat} {W W' : World} {v : Value} {xs : List Nat} (h : New n W v xs) (ho : Off g W W') (hg : g < n) : New n W' v xs := by
  obtain ⟨S, h1, h2, h3⟩ := h
  refine ⟨S, ?_, Nat.lt_of_lt_of_le h2 ho.size, h3⟩
  rcases h3 with rfl | h3
  · rcases h1 with h1 | ⟨_, _, e, _⟩
    · exact .inl h1
    · cases e
  · exact h1.kept (ho.block S h2 (by omega))
theorem Num.drew {w : World} {v : Value} {N k : Nat} (h : Num w v N k) : Num w.drew v N k := h.behind (Below.refl _ w).drew
theorem New.drew {n : Nat} {w : World} {v : Value} {xs : List Nat} (h : New n w v xs) : New n w.drew v xs := h.behind (Below.refl _ w).drew
def Five (s1 s2 s3 s4 s5 : Value) : Obj := .cells #[s1, s2, s3, s4, s5] 22
theorem five_cell {W : World} {L m n1 n2 n3 n4 : Nat} {s1 s2 s3 s4 s5 : Value} {D : List Nat} (h : Blk W L (Five s1 s2 s3 s4 s5)) (hm : m < 4) (h1 : New n1 W s1 D) (h2 : New n2 W s2 D) (h3 : New n3 W s3 D) (h4 : New n4 W s4 D) :
    ∃ p q n, W.cell? ⟨L, m, none⟩ = some (.slice p D.length q) ∧ New n W (.slice p D.length q) D := by
  have key : ∀ i : Nat, W.cell? ⟨L, i, none⟩ = #[s1, s2, s3, s4, s5][i]? := fun i => cell_of_row W L i _ _ (0, 0) h
  have : m = 0 ∨ m = 1 ∨ m = 2 ∨ m = 3 := by omega
  rcases this with rfl | rfl | rfl | rfl
  · obtain ⟨p, q, rfl, _⟩ := h1.slice; exact ⟨p, q, _, key 0, h1⟩
  · obtain ⟨p, q, rfl, _⟩ := h2.slice; exact ⟨p, q, _, key 1, h2⟩
  · obtain ⟨p, q, rfl, _⟩ := h3.slice; exact ⟨p, q, _, key 2, h3⟩
  · obtain ⟨p, q, rfl, _⟩ := h4.slice; exact ⟨p, q, _, key 3, h4⟩

set_option maxRecDepth 100000 in
set_option maxHeartbeats 4000000 in
theorem own_walk (va vb : Value) (xs ys : List Nat) (w : World) (hsh : va = .slice none 0 0 ∨ ∃ ad m cap, va = .slice (some ad) m cap) (hA : Arg w va xs) (hB : Arg w vb ys) (hxl : xs.length ≤ 1048576) (hyl : ys.length ≤ 1048576) (hx : Low 18446744073709551616 xs) (hy : Low 18446744073709551616 ys) :
    Calls Try.prog 6 #[va, vb] w fun e W' => e = .returned (.bool true) ∧ Below w.heap.size w W' := by
  have h0 : 0 < w.heap.size := by obtain ⟨b, hb, _⟩ := hA; omega
  obtain ⟨a, cap, rfl⟩ := hA.slice
  obtain ⟨b, cbp, rfl⟩ := hB.slice
  obtain ⟨i0, hi, hz0, hz1, hz2⟩ := info_parts info_u64
  have HSH := Lib.hid hsh
  clear hsh
  go_enter Try.func6, Try.ntmps6
  go_wp2_with fail
  refine (alive_calls w).mono ?_
  rintro e w1 ⟨rfl, b1⟩
  have hA0 := hA
  have hB0 := hB
  have hA := hA.behind b1
  have hB := hB.behind b1
  go_upto_region 3 with (fail)
  go_cut [5] from 12 to 14 (fun s5 wc => Hid (Copied w1.heap.size wc s5 xs) ∧ Below w1.heap.size w1 wc ∧ w1.heap.size < wc.heap.size)
  case first =>
    have hown : Hid ((w1.alloc (.cells #[] 38)).ownsRow w1.heap.size 38 1 (.slice (some ⟨w1.heap.size, 0, none⟩) 0 0) 0 []) := Lib.hid (World.ownsRow_lit w1 #[] 0 (Nat.le_refl _) (by simp [maxLen]) rfl)
    rcases HSH.out with h | ⟨ad, m, cap', h⟩
    · injection h with h1 h2 h3
      subst h1 h3
      obtain rfl : xs = [] := List.eq_nil_of_length_eq_zero h2
      go_wp2_with (at_builtin; refine wpList_append_own_none rfl _ _ 22 rfl w1.heap.size 38 i0 1 Try.underlying22 hi (.slice (some ⟨w1.heap.size, 0, none⟩) 0 0) 0 [] rfl hown.out rfl ?_)
      go_meet
      exact ⟨hown, (Below.refl _ w1).alloc (Nat.le_refl _) _, by simp⟩
    · injection h with h1 h2 h3
      subst h1 h2 h3
      have hnews : Hid (∀ j u, (wordsV xs)[j]? = some u → (w1.alloc (.cells #[] 38)).cell? (ad.add j) = some u) := Lib.hid (by
        intro j u hu
        have hj : j < xs.length := by
          rcases Nat.lt_or_ge j xs.length with h | h
          · exact h
          · rw [List.getElem?_eq_none (by simpa [wordsV] using h)] at hu; cases hu
        obtain ⟨bA, hbA, hrd⟩ := hA
        rcases hrd with ⟨_, h⟩ | ⟨off, cp, e, hl, hc⟩
        · subst h; simp at hj
        · injection e with e1 e2 e3
          injection e1 with e1
          subst e1
          have e : u = .int .u64 (lim xs j : Int) := by
            simp [wordsV, List.getElem?_eq_getElem hj] at hu
            rw [← hu]; simp [lim, List.getElem?_eq_getElem hj]
          have ha : (⟨bA, off, none⟩ : Addr).add j = ⟨bA, off + j, none⟩ := by
            unfold Addr.add; split <;> simp_all
          rw [ha, e, World.cell?_alloc_lt w1 _ _ (by simpa using hbA)]
          exact hc j hj)
      have hone : Hid (∀ u ∈ wordsV xs, u.oneCell' = true) := Lib.hid (by intro u hu; obtain ⟨x, _, rfl⟩ := List.mem_map.1 hu; rfl)
      go_wp2_with (at_builtin; refine wpList_append_own _ rfl _ _ 22 rfl w1.heap.size 38 i0 (.int .u64 0) 1 8 Try.underlying22 hi hz0 hz1 hz2 rfl (by decide) (.slice (some ⟨w1.heap.size, 0, none⟩) 0 0) 0 [] rfl hown.out ad xs.length cap (wordsV xs) rfl (by simp [wordsV]) hnews.out hone.out (by simp only [maxLen]; omega) (by omega) (by simp) ?_; intro v' w2 hown' hgrow _)
      go_meet
      refine ⟨Lib.hid (by unfold Copied; simpa using hown'), ?_, by have := hgrow.size; simp at this; omega⟩
      exact ((Below.refl _ w1).alloc (Nat.le_refl _) (.cells #[] 38)).grown hgrow (by simp) (fun k e => by simp [Value.ownBlock] at e; omega)
  case rest =>
    obtain ⟨hcp, bc, hgt⟩ := hcut
    have hA := hA.behind bc
    have hB := hB.behind bc
    have BC := below_both b1 bc
    have hX := hcp.out.arg BC h0
    have hXn := num_of hX hx hxl
    have hBn := num_of hB hy hyl
    have hnil := num_nil hXn
    obtain ⟨sa, sc, rfl⟩ := hX.slice
    obtain ⟨g, hg1, hg2, hxb, hsa⟩ := hcp.out.xb hgt
    have BR := Below.refl wc.heap.size wc
    go_wp2_with fail
    refine (norm_num hXn (by omega)).mono ?_
    rintro e wc1 ⟨v1, rfl, u1, n1, bc1⟩
    have hA := hA.behind bc1
    have hX := hX.behind bc1
    have hXn := hXn.behind bc1
    have hBn := hBn.behind bc1
    have hnil := hnil.behind bc1
    have Bc1 := below_both BR bc1
    clear bc1
    go_wp2_with fail
    refine (add_num hXn hnil (by omega) (by omega)).mono ?_
    rintro e wc2 ⟨v2, rfl, u2, n2, bc2⟩
    have hA := hA.behind bc2
    have hX := hX.behind bc2
    have hXn := hXn.behind bc2
    have hBn := hBn.behind bc2
    have hnil := hnil.behind bc2
    have n1 := n1.behind bc2
    have Bc2 := below_both Bc1 bc2
    clear bc2
    go_wp2_with fail
    refine (sub_num hXn hnil (by omega) (by omega)).mono ?_
    rintro e wc3 ⟨v3, rfl, u3, n3, bc3⟩
    have hA := hA.behind bc3
    have hX := hX.behind bc3
    have hXn := hXn.behind bc3
    have hBn := hBn.behind bc3
    have hnil := hnil.behind bc3
    have n1 := n1.behind bc3
    have n2 := n2.behind bc3
    have Bc3 := below_both Bc2 bc3
    clear bc3
    go_wp2_with fail
    have hone := num_one wc3
    have bc4 := (Below.refl (wc3).heap.size (wc3)).alloc (Nat.le_refl _) (.cells #[.int .u64 1] 38)
    have hA := hA.behind bc4
    have hX := hX.behind bc4
    have hXn := hXn.behind bc4
    have hBn := hBn.behind bc4
    have hnil := hnil.behind bc4
    have n1 := n1.behind bc4
    have n2 := n2.behind bc4
    have n3 := n3.behind bc4
    have Bc4 := below_both Bc3 bc4
    clear bc4
    refine (mul_num hXn hone (by omega)).mono ?_
    rintro e wc5 ⟨v4, rfl, u4, n4, bc5⟩
    have hA := hA.behind bc5
    have hX := hX.behind bc5
    have hXn := hXn.behind bc5
    have hBn := hBn.behind bc5
    have hnil := hnil.behind bc5
    have n1 := n1.behind bc5
    have n2 := n2.behind bc5
    have n3 := n3.behind bc5
    have Bc5 := below_both Bc4 bc5
    clear bc5
    go_wp2_with fail
    refine (add_num hXn hBn (by omega) (by omega)).mono ?_
    rintro e wc6 ⟨v5, rfl, u5, n5, bc6⟩
    have hA := hA.behind bc6
    have hX := hX.behind bc6
    have hXn := hXn.behind bc6
    have hBn := hBn.behind bc6
    have hnil := hnil.behind bc6
    have n1 := n1.behind bc6
    have n2 := n2.behind bc6
    have n3 := n3.behind bc6
    have n4 := n4.behind bc6
    have Bc6 := below_both Bc5 bc6
    clear bc6
    rw [Nat.add_zero] at n2
    rw [show dist (val 18446744073709551616 xs) 0 = val 18446744073709551616 xs by unfold dist; omega] at n3
    rw [Nat.mul_one] at n4
    obtain ⟨D, hD⟩ : ∃ D, D = digs 18446744073709551616 (val 18446744073709551616 xs) := ⟨_, rfl⟩
    obtain ⟨E, hE⟩ : ∃ E, E = digs 18446744073709551616 (val 18446744073709551616 xs + val 18446744073709551616 ys) := ⟨_, rfl⟩
    have hDl : D.length ≤ 9223372036854775806 := by rw [hD]; exact Nat.le_trans (digs_length (by decide) hXn.lt) (by omega)
    have hEl : E.length ≤ 9223372036854775806 := by rw [hE]; exact Nat.le_trans (digs_length (by decide) u5.lt) (by omega)
    rw [← hD] at n1 n2 n3 n4
    rw [← hE] at n5
    have HD := Lib.hid hD
    have HE := Lib.hid hE
    clear hD hE
    obtain ⟨p1, q1, rfl, _⟩ := n1.slice
    obtain ⟨p2, q2, rfl, _⟩ := n2.slice
    obtain ⟨p3, q3, rfl, _⟩ := n3.slice
    obtain ⟨p4, q4, rfl, _⟩ := n4.slice
    obtain ⟨p5, q5, rfl, _⟩ := n5.slice
    clear hXn hBn hnil hone u1 u2 u3 u4 u5
    go_wp2_with fail
    have bc7 := (Below.refl (wc6).heap.size (wc6)).alloc (Nat.le_refl _) (.cells #[.slice p1 D.length q1, .slice p2 D.length q2, .slice p3 D.length q3, .slice p4 D.length q4, .slice p5 E.length q5] 22)
    have hA := hA.behind bc7
    have hX := hX.behind bc7
    have n1 := n1.behind bc7
    have n2 := n2.behind bc7
    have n3 := n3.behind bc7
    have n4 := n4.behind bc7
    have n5 := n5.behind bc7
    have Bc7 := below_both Bc6 bc7
    clear bc7
    have hL : Blk (wc6.alloc (.cells #[.slice p1 D.length q1, .slice p2 D.length q2, .slice p3 D.length q3, .slice p4 D.length q4, .slice p5 E.length q5] 22)) wc6.heap.size (Five (.slice p1 D.length q1) (.slice p2 D.length q2) (.slice p3 D.length q3) (.slice p4 D.length q4) (.slice p5 E.length q5)) := World.alloc_heap_new wc6 _
    refine (same_arg hX hA (by omega)).mono ?_
    rintro e wc8 ⟨rfl, bc8⟩
    have n1 := n1.behind bc8
    have n2 := n2.behind bc8
    have n3 := n3.behind bc8
    have n4 := n4.behind bc8
    have n5 := n5.behind bc8
    have hL := hL.behind bc8
    have Bc8 := below_both Bc7 bc8
    clear bc8
    go_wp2_with fail
    have B8 : Below w.heap.size w wc8 := below_both BC Bc8
    have hxb := hxb.behind hg2 Bc8
    have s1 := Bc1.size
    have s2 := Bc2.size
    have s3 := Bc3.size
    have s4 := Bc4.size
    have s5 := Bc5.size
    have s6 := Bc6.size
    have s8 := Bc8.size
    have sw := b1.size
    have HSA := Lib.hid hsa
    have HXB := Lib.hid hxb
    clear hsa hxb Bc1 Bc2 Bc3 Bc4 Bc5 Bc6 Bc7 Bc8 BC BR bc hcp hX
    go_loopw [8] (fun i wr => ∃ k : Nat, k ≤ xs.length ∧ i = .int .i64 k ∧ Off g wc8 wr ∧ Hid (XB xs g wr k)) (fun i _ => xs.length - (intOf i).toNat)
    case atStart => exact ⟨0, Nat.zero_le _, rfl, Off.refl _ _, HXB⟩
    case round =>
      obtain ⟨k, hk, rfl, hO, hxk⟩ := hrel
      by_cases hlt : k < xs.length
      · obtain ⟨rfl, hsc⟩ := HSA.out (by omega)
        obtain ⟨hc, hf⟩ := hxk.out.cell hlt
        go_wp2
        go_roundw
        case rel => exact ⟨k + 1, by omega, by simp, hO.set (p := ⟨g, k, none⟩) (.inl rfl) _, Lib.hid (hxk.out.set _)⟩
        case measure => simp [intOf]; omega
      · go_wp2
        have BW : Below w.heap.size w wr := Off.to_below B8 hO (by omega) (by omega)
        have hA9 := hA0.behind BW
        have hB9 := hB0.behind BW
        have n1 := n1.off hO (by omega)
        have n2 := n2.off hO (by omega)
        have n3 := n3.off hO (by omega)
        have n4 := n4.off hO (by omega)
        have n5 := n5.off hO (by omega)
        have hL := hL.off hO (by omega)
        obtain ⟨w9, rfl⟩ : ∃ w9 : World, w9 = wr := ⟨_, rfl⟩
        clear hxk hO HXB
        go_loopw [9] (fun i wr => ∃ m : Nat, m ≤ 4 ∧ i = .int .i64 m ∧ Below w9.heap.size w9 wr) (fun i _ => 4 - (intOf i).toNat)
        case atStart => exact ⟨0, by omega, rfl, Below.refl _ _⟩
        case round =>
          obtain ⟨m, hm, rfl, hB⟩ := hrel
          by_cases hlt : m < 4
          · obtain ⟨p, q, n, hc, hn⟩ := five_cell (hL.behind hB) hlt (n1.behind hB) (n2.behind hB) (n3.behind hB) (n4.behind hB)
            have hAn := (num_of (hA9.behind hB) hx hxl).drew
            have hLl := (hL.behind hB).lt
            have hn := hn.drew
            have hm5 : (m : Int) < 5 := by omega
            go_wp2_with fail
            refine region_plain follows (fun u => u.cell? ⟨wc6.heap.size, m, none⟩ = some (.slice p D.length q)) hc (fun hHeld => ?_)
            refine wpAnyH_take (i := 0) (v := ?_) rfl (by kernel_rfl) (by kernel_rfl) (by kernel_rfl) (fun _ _ _ h => h) (Or.inl ⟨by rfl, ?_⟩) (by assumption) ?_
            rotate_left
            · (intro _ hSw; (try dsimp only at hSw); (first | (go_simp; done) | (go_simp; with_reducible rfl)))
            try simp only [Act.put, List.getElem_toArray, List.getElem_cons_zero, List.setIfInBounds_toArray, List.set_cons_zero, List.set_cons_succ]
            refine wpAnyH_take (i := 1) (v := ?_) rfl (by kernel_rfl) (by kernel_rfl) (by kernel_rfl) (fun _ _ _ h => h) (Or.inl ⟨by rfl, ?_⟩) (by assumption) ?_
            rotate_left
            · (intro _ hSw; (try dsimp only at hSw); (first | (go_simp; done) | (go_simp; with_reducible rfl)))
            try simp only [Act.put, List.getElem_toArray, List.getElem_cons_zero, List.getElem_cons_succ, List.setIfInBounds_toArray, List.set_cons_zero, List.set_cons_succ]
            refine wpAnyH_take (i := 2) (v := ?_) rfl (by kernel_rfl) (by kernel_rfl) (by kernel_rfl) (fun _ _ _ h => h) (Or.inl ⟨by rfl, ?_⟩) (by assumption) ?_
            rotate_left
            · (intro _ hSw; (try dsimp only at hSw); (first | (go_simp; done) | (go_simp; with_reducible rfl)))
            try simp only [Act.put, List.getElem_toArray, List.getElem_cons_zero, List.getElem_cons_succ, List.setIfInBounds_toArray, List.set_cons_zero, List.set_cons_succ]
            refine wpAnyH_take (i := 3) (v := ?_) rfl (by kernel_rfl) (by kernel_rfl) (by kernel_rfl) (fun _ _ _ h => h) (Or.inl ⟨by rfl, ?_⟩) (by assumption) ?_
            rotate_left
            · (intro _ hSw; (try dsimp only at hSw); (first | (go_simp; done) | (go_simp; with_reducible rfl)))
            try simp only [Act.put, List.getElem_toArray, List.getElem_cons_zero, List.getElem_cons_succ, List.setIfInBounds_toArray, List.set_cons_zero, List.set_cons_succ]
            refine wpAnyH_take (i := 4) (v := ?_) rfl (by kernel_rfl) (by kernel_rfl) (by kernel_rfl) (fun _ _ _ h => h) (Or.inl ⟨by rfl, ?_⟩) (by assumption) ?_
            rotate_left
            · (intro _ hSw; (try dsimp only at hSw); (first | (go_simp; done) | (go_simp; with_reducible rfl)))
            try simp only [Act.put, List.getElem_toArray, List.getElem_cons_zero, List.getElem_cons_succ, List.setIfInBounds_toArray, List.set_cons_zero, List.set_cons_succ]
            refine wpAnyH_ready (rs := [5]) (by kernel_rfl) (by simp) ?_
            refine AllReadyH.cons rfl (fun K hK => ?_) AllReadyH.nil
            go_simp
            refine (of_num hAn (by omega)).mono ?_
            rintro e wa ⟨vx, rfl, rx, ba⟩
            have hn := hn.behind ba
            have hLa : wc6.heap.size < wa.heap.size := Nat.lt_of_lt_of_le hLl ba.size
            have BA := below_both hB.drew ba
            refine hK.out _ _ ((ba.cell (p := ⟨wc6.heap.size, m, none⟩) hLl).trans hHeld) (fun hHeld => ?_)
            clear hK K
            try simp only [Act.put, List.getElem_toArray, List.getElem_cons_zero, List.getElem_cons_succ, List.setIfInBounds_toArray, List.set_cons_zero, List.set_cons_succ]
            refine wpAnyH_ready (rs := [6]) (by kernel_rfl) (by simp) ?_
            refine AllReadyH.cons rfl (fun K hK => ?_) AllReadyH.nil
            go_simp
            refine (limbs_num rx (by omega)).mono ?_
            rintro e wb ⟨vy, rfl, ny, bb⟩
            have hn := hn.behind bb
            have hLb : wc6.heap.size < wb.heap.size := Nat.lt_of_lt_of_le hLa bb.size
            have BA := below_both BA bb
            rw [← HD.out] at ny
            refine hK.out _ _ ((bb.cell (p := ⟨wc6.heap.size, m, none⟩) hLa).trans hHeld) (fun hHeld => ?_)
            clear hK K
            try simp only [Act.put, List.getElem_toArray, List.getElem_cons_zero, List.getElem_cons_succ, List.setIfInBounds_toArray, List.set_cons_zero, List.set_cons_succ]
            refine wpAnyH_ready (rs := [7]) (by kernel_rfl) (by simp) ?_
            refine AllReadyH.cons rfl (fun K hK => ?_) AllReadyH.nil
            go_simp
            refine (same_arg hn.arg ny.arg hDl).mono ?_
            rintro e wd ⟨rfl, bd⟩
            have BA := below_both BA bd
            refine hK.out _ _ ((bd.cell (p := ⟨wc6.heap.size, m, none⟩) hLb).trans hHeld) (fun hHeld => ?_)
            clear hK K
            try simp only [Act.put, List.getElem_toArray, List.getElem_cons_zero, List.getElem_cons_succ, List.setIfInBounds_toArray, List.set_cons_zero, List.set_cons_succ]
            refine wpAnyH_ready (rs := [8]) (by kernel_rfl) (by simp) ?_
            refine AllReadyH.cons rfl (fun K hK => ?_) AllReadyH.nil
            go_simp
            refine hK.out _ _ hHeld (fun hHeld => ?_)
            clear hK K
            try simp only [Act.put, List.getElem_toArray, List.getElem_cons_zero, List.getElem_cons_succ, List.setIfInBounds_toArray, List.set_cons_zero, List.set_cons_succ]
            refine wpAnyH_done (by kernel_rfl) ?_ _
            go_wp2_with fail
            go_roundw
            case rel => exact ⟨m + 1, by omega, by simp, BA⟩
            case measure => simp [intOf]; omega
          · obtain rfl : m = 4 := by omega
            have hc : wr.cell? ⟨wc6.heap.size, 4, none⟩ = some (.slice p5 E.length q5) := cell_of_row wr wc6.heap.size 4 _ _ (0, 0) (hL.behind hB)
            have hAn := (num_of (hA9.behind hB) hx hxl).drew
            have hBn := (num_of (hB9.behind hB) hy hyl).drew
            have hLl := (hL.behind hB).lt
            have hn := (n5.behind hB).drew
            go_wp2_with fail
            refine region_plain follows (fun u => u.cell? ⟨wc6.heap.size, 4, none⟩ = some (.slice p5 E.length q5)) hc (fun hHeld => ?_)
            refine wpAnyH_take (i := 0) (v := ?_) rfl (by kernel_rfl) (by kernel_rfl) (by kernel_rfl) (fun _ _ _ h => h) (Or.inl ⟨by rfl, ?_⟩) (by assumption) ?_
            rotate_left
            · (intro _ hSw; (try dsimp only at hSw); (first | (go_simp; done) | (go_simp; with_reducible rfl)))
            try simp only [Act.put, List.getElem_toArray, List.getElem_cons_zero, List.setIfInBounds_toArray, List.set_cons_zero, List.set_cons_succ]
            refine wpAnyH_take (i := 1) (v := ?_) rfl (by kernel_rfl) (by kernel_rfl) (by kernel_rfl) (fun _ _ _ h => h) (Or.inl ⟨by rfl, ?_⟩) (by assumption) ?_
            rotate_left
            · (intro _ hSw; (try dsimp only at hSw); (first | (go_simp; done) | (go_simp; with_reducible rfl)))
            try simp only [Act.put, List.getElem_toArray, List.getElem_cons_zero, List.getElem_cons_succ, List.setIfInBounds_toArray, List.set_cons_zero, List.set_cons_succ]
            refine wpAnyH_take (i := 2) (v := ?_) rfl (by kernel_rfl) (by kernel_rfl) (by kernel_rfl) (fun _ _ _ h => h) (Or.inl ⟨by rfl, ?_⟩) (by assumption) ?_
            rotate_left
            · (intro _ hSw; (try dsimp only at hSw); (first | (go_simp; done) | (go_simp; with_reducible rfl)))
            try simp only [Act.put, List.getElem_toArray, List.getElem_cons_zero, List.getElem_cons_succ, List.setIfInBounds_toArray, List.set_cons_zero, List.set_cons_succ]
            refine wpAnyH_take (i := 3) (v := ?_) rfl (by kernel_rfl) (by kernel_rfl) (by kernel_rfl) (fun _ _ _ h => h) (Or.inl ⟨by rfl, ?_⟩) (by assumption) ?_
            rotate_left
            · (intro _ hSw; (try dsimp only at hSw); (first | (go_simp; done) | (go_simp; with_reducible rfl)))
            try simp only [Act.put, List.getElem_toArray, List.getElem_cons_zero, List.getElem_cons_succ, List.setIfInBounds_toArray, List.set_cons_zero, List.set_cons_succ]
            refine wpAnyH_take (i := 4) (v := ?_) rfl (by kernel_rfl) (by kernel_rfl) (by kernel_rfl) (fun _ _ _ h => h) (Or.inl ⟨by rfl, ?_⟩) (by assumption) ?_
            rotate_left
            · (intro _ hSw; (try dsimp only at hSw); (first | (go_simp; done) | (go_simp; with_reducible rfl)))
            try simp only [Act.put, List.getElem_toArray, List.getElem_cons_zero, List.getElem_cons_succ, List.setIfInBounds_toArray, List.set_cons_zero, List.set_cons_succ]
            refine wpAnyH_take (i := 5) (v := ?_) rfl (by kernel_rfl) (by kernel_rfl) (by kernel_rfl) (fun _ _ _ h => h) (Or.inl ⟨by rfl, ?_⟩) (by assumption) ?_
            rotate_left
            · (intro _ hSw; (try dsimp only at hSw); (first | (go_simp; done) | (go_simp; with_reducible rfl)))
            try simp only [Act.put, List.getElem_toArray, List.getElem_cons_zero, List.getElem_cons_succ, List.setIfInBounds_toArray, List.set_cons_zero, List.set_cons_succ]
            refine wpAnyH_take (i := 7) (v := ?_) rfl (by kernel_rfl) (by kernel_rfl) (by kernel_rfl) (fun _ _ _ h => h) (Or.inl ⟨by rfl, ?_⟩) (by assumption) ?_
            rotate_left
            · (intro _ hSw; (try dsimp only at hSw); (first | (go_simp; done) | (go_simp; with_reducible rfl)))
            try simp only [Act.put, List.getElem_toArray, List.getElem_cons_zero, List.getElem_cons_succ, List.setIfInBounds_toArray, List.set_cons_zero, List.set_cons_succ]
            refine wpAnyH_ready (rs := [6]) (by kernel_rfl) (by simp) ?_
            refine AllReadyH.cons rfl (fun K hK => ?_) AllReadyH.nil
            go_simp
            refine (of_num hAn (by omega)).mono ?_
            rintro e wa ⟨vx, rfl, rx, ba⟩
            have hn := hn.behind ba
            have hBn := hBn.behind ba
            have hLa : wc6.heap.size < wa.heap.size := Nat.lt_of_lt_of_le hLl ba.size
            have BA := below_both hB.drew ba
            refine hK.out _ _ ((ba.cell (p := ⟨wc6.heap.size, 4, none⟩) hLl).trans hHeld) (fun hHeld => ?_)
            clear hK K
            try simp only [Act.put, List.getElem_toArray, List.getElem_cons_zero, List.getElem_cons_succ, List.setIfInBounds_toArray, List.set_cons_zero, List.set_cons_succ]
            refine wpAnyH_ready (rs := [8]) (by kernel_rfl) (by simp) ?_
            refine AllReadyH.cons rfl (fun K hK => ?_) AllReadyH.nil
            go_simp
            refine (of_num hBn (by omega)).mono ?_
            rintro e wb ⟨vy, rfl, ry, bb⟩
            have hn := hn.behind bb
            have rx := rx.behind bb
            have hLb : wc6.heap.size < wb.heap.size := Nat.lt_of_lt_of_le hLa bb.size
            have BA := below_both BA bb
            refine hK.out _ _ ((bb.cell (p := ⟨wc6.heap.size, 4, none⟩) hLa).trans hHeld) (fun hHeld => ?_)
            clear hK K
            try simp only [Act.put, List.getElem_toArray, List.getElem_cons_zero, List.getElem_cons_succ, List.setIfInBounds_toArray, List.set_cons_zero, List.set_cons_succ]
            refine wpAnyH_ready (rs := [9]) (by kernel_rfl) (by simp) ?_
            refine AllReadyH.cons rfl (fun K hK => ?_) AllReadyH.nil
            go_simp
            refine (radd_num rx ry (by omega) (by omega)).mono ?_
            rintro e wd ⟨vz, rfl, rz, bd⟩
            have hn := hn.behind bd
            have hLd : wc6.heap.size < wd.heap.size := Nat.lt_of_lt_of_le hLb bd.size
            have BA := below_both BA bd
            refine hK.out _ _ ((bd.cell (p := ⟨wc6.heap.size, 4, none⟩) hLb).trans hHeld) (fun hHeld => ?_)
            clear hK K
            try simp only [Act.put, List.getElem_toArray, List.getElem_cons_zero, List.getElem_cons_succ, List.setIfInBounds_toArray, List.set_cons_zero, List.set_cons_succ]
            refine wpAnyH_ready (rs := [10]) (by kernel_rfl) (by simp) ?_
            refine AllReadyH.cons rfl (fun K hK => ?_) AllReadyH.nil
            go_simp
            refine (limbs_num rz (by omega)).mono ?_
            rintro e we ⟨vy2, rfl, ny, be⟩
            have hn := hn.behind be
            have hLe : wc6.heap.size < we.heap.size := Nat.lt_of_lt_of_le hLd be.size
            have BA := below_both BA be
            rw [← HE.out] at ny
            refine hK.out _ _ ((be.cell (p := ⟨wc6.heap.size, 4, none⟩) hLd).trans hHeld) (fun hHeld => ?_)
            clear hK K
            try simp only [Act.put, List.getElem_toArray, List.getElem_cons_zero, List.getElem_cons_succ, List.setIfInBounds_toArray, List.set_cons_zero, List.set_cons_succ]
            refine wpAnyH_ready (rs := [11]) (by kernel_rfl) (by simp) ?_
            refine AllReadyH.cons rfl (fun K hK => ?_) AllReadyH.nil
            go_simp
            refine (same_arg hn.arg ny.arg hEl).mono ?_
            rintro e wf ⟨rfl, bf⟩
            have BA := below_both BA bf
            refine hK.out _ _ ((bf.cell (p := ⟨wc6.heap.size, 4, none⟩) hLe).trans hHeld) (fun hHeld => ?_)
            clear hK K
            try simp only [Act.put, List.getElem_toArray, List.getElem_cons_zero, List.getElem_cons_succ, List.setIfInBounds_toArray, List.set_cons_zero, List.set_cons_succ]
            refine wpAnyH_ready (rs := [12]) (by kernel_rfl) (by simp) ?_
            refine AllReadyH.cons rfl (fun K hK => ?_) AllReadyH.nil
            go_simp
            refine hK.out _ _ hHeld (fun hHeld => ?_)
            clear hK K
            try simp only [Act.put, List.getElem_toArray, List.getElem_cons_zero, List.getElem_cons_succ, List.setIfInBounds_toArray, List.set_cons_zero, List.set_cons_succ]
            refine wpAnyH_ready (rs := [13]) (by kernel_rfl) (by simp) ?_
            refine AllReadyH.cons rfl (fun K hK => ?_) AllReadyH.nil
            go_simp
            refine hK.out _ _ hHeld (fun hHeld => ?_)
            clear hK K
            try simp only [Act.put, List.getElem_toArray, List.getElem_cons_zero, List.getElem_cons_succ, List.setIfInBounds_toArray, List.set_cons_zero, List.set_cons_succ]
            refine wpAnyH_done (by kernel_rfl) ?_ _
            go_wp2_with fail
            go_ret
            exact ⟨rfl, BW.trans (BA.mono BW.size)⟩
end Go.Proofs.Ytfhlbeglobbmpaa
