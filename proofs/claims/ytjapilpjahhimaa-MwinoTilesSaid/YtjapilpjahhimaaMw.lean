/- Proved: for any two lists of words and any five ints vernierlaw28.MwinoTells answers true and leaves them as they were: a product of tiles is that of rows, bit by bit, in tiles, or has its error. Proved: for any list of words, any three ints and any word vernierlaw28.MwinoPlain answers true and leaves them as they were: tiles' multiples, and tiles transposed, are those of rows. Proved: for any two matrices, any two uint8 and any int vernierlaw28.MwinoTiles answers true and leaves them as they were: whatever the tile, a product of matrices is the same. Conditions: none. -/
import Derived.Test.YtjapilpjahhimaaMoNum
import Derived.Test.YtjapilpjahhimaaMaPair
import Derived.Test.YtjapilpjahhimaaShMake
import Derived.Deep.RegionHeld3
import Derived.Test.YtjapilpjahhimaaWiMulS
import Derived.Test.YtjapilpjahhimaaSame
import Derived.Test.YtjapilpjahhimaaRowLift
import Derived.LaidLaws
import Derived.SizedLaws
namespace Go.Proofs.Ytjapilpjahhimaa
open Go.RowKit Go.Shelf
/-- From's error, and its words -/
def frE (R C t : Int) (m : Nat) : Int := if sideOK R C t = false then 11 else if m ≠ sizN (max R.toNat C.toNat) t.toNat then 5 else 0
def frL (R C t : Int) (xs : List Nat) : List Nat := tab R.toNat C.toNat fun i j => lim xs (plc i j t.toNat)
/-- To's -/
def toE (R C : Int) (m : Nat) (t : Int) : Int := if mayM R C m = true ∧ sideOK R C t = true then 0 else 11
def toL (R C t : Int) (xs : List Nat) : List Nat := layW R.toNat C.toNat t.toNat xs
theorem sideOK_iff {R C t : Int} : sideOK R C t = true ↔ (1 ≤ R ∧ R ≤ 64 ∧ 1 ≤ C ∧ C ≤ 64 ∧ 1 ≤ t ∧ t ≤ 8) := by simp [sideOK]
theorem tab_lowM {R C : Nat} {g : Nat → Nat → Nat} (h : ∀ i j, i < R → j < C → g i j < 18446744073709551616) : Low 18446744073709551616 (tab R C g) := fun x hx => by
  obtain ⟨k, hk, e⟩ := List.getElem_of_mem hx
  rw [tab_length] at hk
  have hC : 0 < C := by
    rcases Nat.eq_zero_or_pos C with h0 | h0
    · subst h0; omega
    · exact h0
  have h1 : k / C < R := by rwa [Nat.div_lt_iff_lt_mul hC]
  have h2 := Nat.mod_lt k hC
  have e2 := tab_lim g h1 h2
  rw [Nat.div_add_mod'] at e2
  have e3 : lim (tab R C g) k = x := by unfold lim; rw [List.getElem?_eq_getElem (by rw [tab_length]; exact hk), Option.getD_some, e]
  have := h _ _ h1 h2
  omega
theorem frL_low {R C t : Int} {xs : List Nat} (h : Low 18446744073709551616 xs) : Low 18446744073709551616 (frL R C t xs) := tab_lowM fun i j _ _ => lim_lt h (by decide) _
theorem frL_length {R C t : Int} {xs : List Nat} : (frL R C t xs).length = R.toNat * C.toNat := tab_length _ _ _
theorem frE_zero {R C t : Int} {m : Nat} (h : frE R C t m = 0) : (1 ≤ R ∧ R ≤ 64 ∧ 1 ≤ C ∧ C ≤ 64 ∧ 1 ≤ t ∧ t ≤ 8) ∧ m = sizN (max R.toNat C.toNat) t.toNat := by
  unfold frE at h
  by_cases h1 : sideOK R C t = false
  · rw [if_pos h1] at h; exact absurd h (by decide)
  · rw [if_neg h1] at h
    by_cases h2 : m ≠ sizN (max R.toNat C.toNat) t.toNat
    · rw [if_pos h2] at h; exact absurd h (by decide)
    · exact ⟨sideOK_iff.1 (by simpa using h1), by omega⟩
theorem mo_fromA {a : Option Addr} {m cap : Nat} {R C t : Int} {xs : List Nat} {w : World} (hA : Arg w (.slice a m cap) xs) (h1 : -9223372036854775808 ≤ t) (h2 : t ≤ 9223372036854775807) :
    Calls Try.prog 32 #[.slice a m cap, .int .i64 R, .int .i64 C, .int .i64 t] w fun e W' => ∃ R2 C2 b n c, e = .returned (.tuple #[.agg #[.int .i64 R2, .int .i64 C2, .slice b n c], .int .i64 (frE R C t m)]) ∧ New w.heap.size W' (.slice b n c) (if frE R C t m = 0 then frL R C t xs else []) ∧ ((frE R C t m = 0 → R2 = R ∧ C2 = C) ∧ (frE R C t m ≠ 0 → R2 = 0 ∧ C2 = 0)) ∧ Below w.heap.size w W' := by
  have hpos : 0 < w.heap.size := by obtain ⟨S, hS, _⟩ := hA; omega
  by_cases k1 : sideOK R C t = false
  · have e1 : frE R C t m = 11 := by unfold frE; rw [if_pos k1]
    rw [e1]
    refine (mo_from_no k1 h1 h2).mono ?_
    rintro e W' ⟨rfl, hb⟩
    exact ⟨0, 0, none, 0, 0, rfl, new_nil _ hpos hb, ⟨fun h => absurd h (by decide), fun _ => ⟨rfl, rfl⟩⟩, hb⟩
  · have k2 := sideOK_iff.1 (show sideOK R C t = true by simpa using k1)
    obtain ⟨r, rfl⟩ : ∃ r : Nat, R = r := ⟨R.toNat, by omega⟩
    obtain ⟨c, rfl⟩ : ∃ r : Nat, C = r := ⟨C.toNat, by omega⟩
    obtain ⟨s, rfl⟩ : ∃ r : Nat, t = r := ⟨t.toNat, by omega⟩
    by_cases k3 : m = sizN (max r c) s
    · have e1 : frE r c s m = 0 := by unfold frE; rw [if_neg k1, if_neg (by simp only [Int.toNat_natCast]; omega)]
      rw [e1]
      refine (mo_from hA (by omega) (by omega) (by omega) (by omega) (by omega) (by omega) k3).mono ?_
      rintro e W' ⟨b, cc, rfl, hN, hb⟩
      exact ⟨r, c, b, _, cc, rfl, hN, ⟨fun _ => ⟨rfl, rfl⟩, fun h => absurd rfl h⟩, hb⟩
    · have e1 : frE r c s m = 5 := by unfold frE; rw [if_neg k1, if_pos (by simp only [Int.toNat_natCast]; omega)]
      rw [e1]
      refine (mo_from_long (a := a) (cap := cap) (by omega) (by omega) (by omega) (by omega) (by omega) (by omega) k3).mono ?_
      rintro e W' ⟨rfl, hb⟩
      exact ⟨0, 0, none, 0, 0, rfl, new_nil _ hpos hb, ⟨fun h => absurd h (by decide), fun _ => ⟨rfl, rfl⟩⟩, hb⟩
theorem mo_toA {a : Option Addr} {m cap : Nat} {R C t : Int} {xs : List Nat} {w : World} (hA : Arg w (.slice a m cap) xs) (h1 : -9223372036854775808 ≤ t) (h2 : t ≤ 9223372036854775807) :
    Calls Try.prog 33 #[.agg #[.int .i64 R, .int .i64 C, .slice a m cap], .int .i64 t] w fun e W' => ∃ v, e = .returned (.tuple #[v, .int .i64 (toE R C m t)]) ∧ Arg W' v (if toE R C m t = 0 then toL R C t xs else []) ∧ Below w.heap.size w W' := by
  have hpos : 0 < w.heap.size := by obtain ⟨S, hS, _⟩ := hA; omega
  have hnil : ∀ W', Below w.heap.size w W' → Arg W' (.slice none 0 0) [] := fun W' hb => ⟨0, Nat.lt_of_lt_of_le hpos hb.size, .inl ⟨⟨_, _, rfl⟩, rfl⟩⟩
  by_cases k1 : mayM R C m = true
  · by_cases k2 : sideOK R C t = true
    · have k3 := sideOK_iff.1 k2
      have e1 : toE R C m t = 0 := by unfold toE; rw [if_pos ⟨k1, k2⟩]
      rw [e1]
      obtain ⟨r, rfl⟩ : ∃ r : Nat, R = r := ⟨R.toNat, by omega⟩
      obtain ⟨c, rfl⟩ : ∃ r : Nat, C = r := ⟨C.toNat, by omega⟩
      obtain ⟨s, rfl⟩ : ∃ r : Nat, t = r := ⟨t.toNat, by omega⟩
      refine (mo_to hA k1 (by omega) (by omega)).mono ?_
      rintro e W' ⟨v, rfl, hN, hb⟩
      exact ⟨v, rfl, hN.arg, hb⟩
    · have e1 : toE R C m t = 11 := by unfold toE; rw [if_neg (fun h => k2 h.2)]
      rw [e1]
      refine (mo_to_tile k1 (by simpa using k2) h1 h2).mono ?_
      rintro e W' ⟨rfl, hb⟩
      exact ⟨_, rfl, hnil _ hb, hb⟩
  · have e1 : toE R C m t = 11 := by unfold toE; rw [if_neg (fun h => k1 h.1)]
    rw [e1]
    refine (mo_to_no (by simpa using k1)).mono ?_
    rintro e W' ⟨rfl, hb⟩
    exact ⟨_, rfl, hnil _ hb, hb⟩
/-- what tiles' closure tells of a matrix and an error -/
def tiE (R C : Int) (n : Nat) (t E : Int) : Int := if E ≠ 0 then E else toE R C n t
theorem mw_tile1 {g : Nat} {b : Option Addr} {n cap : Nat} {R C t E : Int} {zs : List Nat} {w : World} (hc : Ms w g #[.int .i64 t] 3) (hA : Arg w (.slice b n cap) zs) (h1 : -9223372036854775808 ≤ t) (h2 : t ≤ 9223372036854775807) :
    Calls Try.prog 84 #[.agg #[.int .i64 R, .int .i64 C, .slice b n cap], .int .i64 E, .pointer (some ⟨g, 0, none⟩)] w fun e W' => ∃ v, e = .returned (.tuple #[v, .int .i64 (tiE R C n t E)]) ∧ Arg W' v (if tiE R C n t E = 0 then toL R C t zs else []) ∧ Below w.heap.size w W' := by
  have hpos : 0 < w.heap.size := by obtain ⟨S, hS, _⟩ := hA; omega
  obtain ⟨b1, G⟩ := mbox w #[.int .i64 R, .int .i64 C, .slice b n cap] 24 _ rfl
  have c0 := G.cell (i := 0) rfl
  have c1 := G.cell (i := 1) rfl
  have c2 := G.cell (i := 2) rfl
  have hc' := (hc.behind b1).cell (i := 0) rfl
  have ht := mo_toA (R := R) (C := C) (hA.behind b1) h1 h2
  by_cases he : E = 0
  · have e1 : tiE R C n t E = toE R C n t := by unfold tiE; rw [if_neg (fun h => h he)]
    rw [e1]
    obtain ⟨Z, hZ⟩ : ∃ Z, Z = if toE R C n t = 0 then toL R C t zs else [] := ⟨_, rfl⟩
    rw [← hZ] at ht ⊢
    clear hZ
    have q : (E != 0) = false := by simp [he]
    clear he e1 hA hc hpos h1 h2
    go_enter Try.func84, Try.ntmps84
    go_wp2_with fail
    refine ht.mono ?_
    rintro e w1 ⟨v, rfl, hv, b2⟩
    go_wp2
    go_ret2
    exact ⟨v, rfl, hv, below_both b1 b2⟩
  · have e1 : tiE R C n t E = E := by unfold tiE; rw [if_pos he]
    rw [e1]
    have q : (E != 0) = true := bne_iff_ne.2 he
    have hn : Arg (w.alloc (.cells #[.int .i64 R, .int .i64 C, .slice b n cap] 24)) (.slice none 0 0) (if E = 0 then toL R C t zs else []) := by
      rw [if_neg he]
      exact ⟨0, Nat.lt_of_lt_of_le hpos b1.size, .inl ⟨⟨_, _, rfl⟩, rfl⟩⟩
    have hn := Lib.hid hn
    obtain ⟨Z, hZ⟩ : ∃ Z, Z = if E = 0 then toL R C t zs else [] := ⟨_, rfl⟩
    rw [← hZ] at hn ⊢
    clear hZ he e1 hA hc hpos h1 h2 ht
    go_enter Try.func84, Try.ntmps84
    go_wp2
    go_ret2
    exact ⟨_, rfl, hn.out, b1⟩
theorem mw_tiles {t : Int} {w : World} : Calls Try.prog 60 #[.int .i64 t] w fun e W' => ∃ g, e = .returned (.func (.func 84) #[] #[.pointer (some ⟨g, 0, none⟩)]) ∧ Ms W' g #[.int .i64 t] 3 ∧ Below w.heap.size w W' := by
  obtain ⟨b1, G⟩ := mbox w #[.int .i64 t] 3 _ rfl
  have hmf : ∀ (fn : Go.Fn) (first cap : Array Value) (w : World), (Instr.makeFunc fn first cap).run Try.prog w = .ok (.func fn first cap) w := fun _ _ _ _ => rfl
  go_enter Try.func60, Try.ntmps60
  go_wp2
  go_ret
  exact ⟨_, rfl, G, b1⟩
end Go.Proofs.Ytjapilpjahhimaa

/- mwino: Map, Transpose, Mul. -/
namespace Go.Proofs.Ytjapilpjahhimaa
open Go.RowKit Go.Shelf
set_option maxRecDepth 100000 in
set_option maxHeartbeats 8000000 in
theorem mw_tp {a : Option Addr} {m cap : Nat} {R C t : Int} {xs : List Nat} {w : World} (hA : Arg w (.slice a m cap) xs) (lx : Low 18446744073709551616 xs) (h1 : -9223372036854775808 ≤ t) (h2 : t ≤ 9223372036854775807) :
    Calls Try.prog 36 #[.slice a m cap, .int .i64 R, .int .i64 C, .int .i64 t] w fun e W' => ∃ v, e = .returned (.tuple #[v, .int .i64 (frE R C t m)]) ∧ Arg W' v (if frE R C t m = 0 then toL C R t (trl R.toNat C.toNat (frL R C t xs)) else []) ∧ Below w.heap.size w W' := by
  have hpos : 0 < w.heap.size := by obtain ⟨S, hS, _⟩ := hA; omega
  have hF := mo_fromA (R := R) (C := C) hA h1 h2
  by_cases hE : frE R C t m = 0
  · obtain ⟨⟨k1, k2, k3, k4, k5, k6⟩, -⟩ := frE_zero hE
    rw [hE] at hF ⊢
    have hll := frL_low (R := R) (C := C) (t := t) lx
    have hle := frL_length (R := R) (C := C) (t := t) (xs := xs)
    generalize frL R C t xs = L at *
    obtain ⟨r, rfl⟩ : ∃ r : Nat, R = r := ⟨R.toNat, by omega⟩
    obtain ⟨c, rfl⟩ : ∃ r : Nat, C = r := ⟨C.toNat, by omega⟩
    simp only [Int.toNat_natCast, if_true] at hF hle ⊢
    have hmm : mayM r c (r * c) = true := mayM_iff.2 ⟨by omega, by omega, by omega, by omega, by rw [Int.natCast_mul]⟩
    have hmt : toE c r (r * c) t = 0 := by
      unfold toE
      rw [if_pos ⟨mayM_iff.2 ⟨by omega, by omega, by omega, by omega, by rw [Nat.mul_comm, Int.natCast_mul]⟩, sideOK_iff.2 ⟨by omega, by omega, by omega, by omega, k5, k6⟩⟩]
    have HT : Hid (∀ (W : World) b cc, Arg W (.slice b (r * c) cc) L → _) := Lib.hid (fun W b cc h => shape_turn (R := r) (C := c) (cap := cc) (a := b) (w := W) h hll hmm)
    have HC : Hid (∀ (W : World) (g : Nat) b cc, Ms W g #[.int .i64 t] 3 → Arg W (.slice b (r * c) cc) (trl r c L) → _) := Lib.hid (fun W g b cc h h' => mw_tile1 (R := (c : Int)) (C := (r : Int)) (E := 0) (w := W) h h' h1 h2)
    rw [show tiE c r (r * c) t 0 = 0 by unfold tiE; rw [if_neg (by simp), hmt]] at HC
    have hlr : L.length = r * c := hle
    generalize hRC : r * c = q at *
    have he := enters_of Try.func84 (by kernel_rfl) rfl
    have HLR := Lib.hid hlr
    clear hA hll lx hE hmm hmt h1 h2 k5 k6 hlr hle hRC
    go_enter Try.func36, Try.ntmps36
    go_wp2_with fail
    refine hF.mono ?_
    rintro e w1 ⟨R2, C2, b2, n2, c2, rfl, hN, ⟨e2, -⟩, bz⟩
    obtain ⟨rfl, rfl⟩ := e2 trivial
    obtain ⟨_, _, hn2, _⟩ := hN.slice
    simp only [Value.slice.injEq] at hn2
    obtain rfl : n2 = q := by rw [hn2.2.1]; exact HLR.out
    obtain ⟨b3, G⟩ := mbox w1 #[.int .i64 (r : Int), .int .i64 (c : Int), .slice b2 n2 c2] 24 _ rfl
    have hA1 := hN.arg.behind b3
    have B := below_both bz b3
    clear hF hN e2 hn2 bz b3
    go_upto_region 4 with (fail)
    generalize w1.alloc (.cells #[.int .i64 (r : Int), .int .i64 (c : Int), .slice b2 n2 c2] 24) = W1 at *
    generalize w1.heap.size = g at *
    have HA1 : Hid (∀ W, Below W1.heap.size W1 W → Arg W (.slice b2 n2 c2) L) := Lib.hid (fun W h => hA1.behind h)
    have HK : Hid (∀ W, Below W1.heap.size W1 W → W.cell? ⟨g, 0, none⟩ = some (.int .i64 (r : Int)) ∧ W.cell? ⟨g, 1, none⟩ = some (.int .i64 (c : Int)) ∧ W.cell? ⟨g, 2, none⟩ = some (.slice b2 n2 c2)) := Lib.hid (fun W h => ⟨(G.behind h).cell (i := 0) rfl, (G.behind h).cell (i := 1) rfl, (G.behind h).cell (i := 2) rfl⟩)
    have Br : Below W1.heap.size W1 W1 := Below.refl _ _
    clear hA1 G
    go_region_held3 (fun W => W.cell? ⟨g, 0, none⟩ = some (.int .i64 (r : Int)) ∧ W.cell? ⟨g, 1, none⟩ = some (.int .i64 (c : Int)) ∧ W.cell? ⟨g, 2, none⟩ = some (.slice b2 n2 c2))
      (first | with_reducible exact HK.out _ Br | with_reducible exact HK.out _ Br.drew | (fail))
      (first
        | (go_at_call 60; (refine (mw_tiles).mono ?_); rintro e v1 ⟨pt, rfl, hpt, bz⟩; (first | with_reducible replace hT := hT.behind bz | replace hT := hT.drew.behind bz | skip); (first | with_reducible replace Br := below_both Br bz | replace Br := below_both Br.drew bz); clear bz)
        | (go_at_call 37; (first | (with_reducible refine (HT.out _ _ _ (HA1.out _ Br)).mono ?_) | (refine (HT.out _ _ _ (HA1.out _ Br.drew)).mono ?_)); rintro e v2 ⟨bb, cc, rfl, hT, bz⟩; (first | with_reducible replace hpt := hpt.behind bz | replace hpt := hpt.drew.behind bz | skip); (first | with_reducible replace Br := below_both Br bz | replace Br := below_both Br.drew bz); clear bz)
        | (go_at_call 84; (refine (HC.out _ _ _ _ hpt hT.arg).mono ?_); rintro e v3 ⟨v, rfl, hv, bz⟩; replace Br := below_both Br bz; clear bz)
        | (fail))
    go_wp2
    go_ret2
    exact ⟨v, rfl, hv, below_both B Br⟩
  · have hn : ∀ W', Below w.heap.size w W' → Arg W' (.slice none 0 0) (if frE R C t m = 0 then toL C R t (trl R.toNat C.toNat (frL R C t xs)) else []) := fun W' hb => by
      rw [if_neg hE]
      exact ⟨0, Nat.lt_of_lt_of_le hpos hb.size, .inl ⟨⟨_, _, rfl⟩, rfl⟩⟩
    have HN := Lib.hid hn
    obtain ⟨Z, hZ⟩ : ∃ Z, Z = if frE R C t m = 0 then toL C R t (trl R.toNat C.toNat (frL R C t xs)) else [] := ⟨_, rfl⟩
    rw [← hZ] at HN ⊢
    clear hZ
    obtain ⟨Y, hY⟩ : ∃ Y, Y = if frE R C t m = 0 then frL R C t xs else [] := ⟨_, rfl⟩
    rw [← hY] at hF
    clear hY
    have q : (frE R C t m != 0) = true := bne_iff_ne.2 hE
    clear hn lx hA h1 h2 hpos
    generalize frE R C t m = E at *
    clear hE
    go_enter Try.func36, Try.ntmps36
    go_wp2_with fail
    refine hF.mono ?_
    rintro e w1 ⟨R2, C2, b2, n2, c2, rfl, hN, -, bz⟩
    obtain ⟨b3, G⟩ := mbox w1 #[.int .i64 R2, .int .i64 C2, .slice b2 n2 c2] 24 _ rfl
    have B := below_both bz b3
    clear hF hN bz b3
    go_wp2
    go_ret2
    exact ⟨_, rfl, HN.out _ B, B⟩
end Go.Proofs.Ytjapilpjahhimaa

/- mwino: Map. -/
namespace Go.Proofs.Ytjapilpjahhimaa
open Go.RowKit Go.Shelf
theorem mw_close {g : Nat} {b : Option Addr} {n cap : Nat} {R C R2 C2 t E : Int} {L : List Nat} {w : World} (hc : Ms w g #[.int .i64 t] 3) (hA : Arg w (.slice b n cap) (if E = 0 then L else [])) (hr : E = 0 → R2 = R ∧ C2 = C) (hm : E = 0 → mayM R C L.length = true ∧ sideOK R C t = true) (h1 : -9223372036854775808 ≤ t) (h2 : t ≤ 9223372036854775807) :
    Calls Try.prog 84 #[.agg #[.int .i64 R2, .int .i64 C2, .slice b n cap], .int .i64 E, .pointer (some ⟨g, 0, none⟩)] w fun e W' => ∃ v, e = .returned (.tuple #[v, .int .i64 E]) ∧ Arg W' v (if E = 0 then toL R C t L else []) ∧ Below w.heap.size w W' := by
  have ht := mw_tile1 (R := R2) (C := C2) (E := E) hc hA h1 h2
  by_cases he : E = 0
  · obtain ⟨rfl, rfl⟩ := hr he
    obtain ⟨m1, m2⟩ := hm he
    subst he
    simp only [if_true] at hA
    obtain ⟨_, _, e⟩ := hA.slice
    simp only [Value.slice.injEq] at e
    obtain ⟨-, rfl, -⟩ := e
    rw [show tiE R2 C2 L.length t 0 = 0 by unfold tiE toE; rw [if_neg (by simp), if_pos ⟨m1, m2⟩]] at ht
    exact ht
  · rw [show tiE R2 C2 n t E = E by unfold tiE; rw [if_pos he]] at ht
    refine ht.mono ?_
    rintro e W' ⟨v, rfl, hv, hb⟩
    rw [if_neg he] at hv
    exact ⟨v, rfl, by rw [if_neg he]; exact hv, hb⟩
/-- Map's error -/
def mpE (R C t : Int) (m : Nat) (xs : List Nat) (x : Nat) : Int := if frE R C t m ≠ 0 then frE R C t m else tellV (scalV x (frL R C t xs)) (scF R C (R.toNat * C.toNat) (frL R C t xs) x)
set_option maxRecDepth 100000 in
set_option maxHeartbeats 8000000 in
theorem mw_map {a : Option Addr} {m cap x : Nat} {R C t : Int} {xs : List Nat} {w : World} (hA : Arg w (.slice a m cap) xs) (lx : Low 18446744073709551616 xs) (hx : (x : Int) ≤ 18446744073709551615) (h1 : -9223372036854775808 ≤ t) (h2 : t ≤ 9223372036854775807) :
    Calls Try.prog 35 #[.slice a m cap, .int .i64 R, .int .i64 C, .int .i64 t, .int .u64 (x : Int)] w fun e W' => ∃ v, e = .returned (.tuple #[v, .int .i64 (mpE R C t m xs x)]) ∧ Arg W' v (if mpE R C t m xs x = 0 then toL R C t (scalV x (frL R C t xs)) else []) ∧ Below w.heap.size w W' := by
  have hpos : 0 < w.heap.size := by obtain ⟨S, hS, _⟩ := hA; omega
  have hF := mo_fromA (R := R) (C := C) hA h1 h2
  by_cases hE : frE R C t m = 0
  · obtain ⟨⟨k1, k2, k3, k4, k5, k6⟩, -⟩ := frE_zero hE
    have hmp : mpE R C t m xs x = tellV (scalV x (frL R C t xs)) (scF R C (R.toNat * C.toNat) (frL R C t xs) x) := by unfold mpE; rw [if_neg (by simp [hE])]
    rw [hmp]
    rw [hE] at hF
    have hll := frL_low (R := R) (C := C) (t := t) lx
    have hle := frL_length (R := R) (C := C) (t := t) (xs := xs)
    clear hmp
    generalize frL R C t xs = L at *
    simp only [if_true] at hF
    have hmm : mayM R C (R.toNat * C.toNat) = true := mayM_iff.2 ⟨k1, k2, k3, k4, by rw [Int.natCast_mul, Int.toNat_of_nonneg (by omega), Int.toNat_of_nonneg (by omega)]⟩
    have hsl : (scalV x L).length = R.toNat * C.toNat := by unfold scalV; rw [rowV_length, hle]
    obtain ⟨q, hq⟩ : ∃ q, q = R.toNat * C.toNat := ⟨_, rfl⟩
    rw [← hq] at hle hmm hsl ⊢
    have HS : Hid (∀ (W : World) b cc, Arg W (.slice b q cc) L → _) := Lib.hid (fun W b cc h => mat_scale (R := R) (C := C) (cap := cc) (a := b) (m := q) (w := W) hx h hll)
    obtain ⟨E, hEE⟩ : ∃ E, E = tellV (scalV x L) (scF R C q L x) := ⟨_, rfl⟩
    rw [← hEE] at HS ⊢
    have HC : Hid (∀ (W : World) (g : Nat) R2 C2 b n cc, Ms W g #[.int .i64 t] 3 → Arg W (.slice b n cc) (if E = 0 then scalV x L else []) → (E = 0 → R2 = R ∧ C2 = C) → _) := Lib.hid (fun W g R2 C2 b n cc h h' h'' => mw_close (R := R) (C := C) (R2 := R2) (C2 := C2) (E := E) (w := W) h h' h'' (fun _ => ⟨by rw [hsl]; exact hmm, sideOK_iff.2 ⟨k1, k2, k3, k4, k5, k6⟩⟩) h1 h2)
    obtain ⟨Z, hZ⟩ : ∃ Z, Z = if E = 0 then toL R C t (scalV x L) else [] := ⟨_, rfl⟩
    obtain ⟨Y, hY⟩ : ∃ Z, Z = if E = 0 then scalV x L else [] := ⟨_, rfl⟩
    rw [← hZ] at HC ⊢
    rw [← hY] at HC HS
    have he := enters_of Try.func84 (by kernel_rfl) rfl
    have HLR := Lib.hid hle
    clear hA hll lx hE hmm h1 h2 k1 k2 k3 k4 k5 k6 hle hsl hq hEE hZ hY
    generalize scalV x L = SV at *
    go_enter Try.func35, Try.ntmps35
    go_wp2_with fail
    refine hF.mono ?_
    rintro e w1 ⟨R2, C2, b2, n2, c2, rfl, hN, ⟨e2, -⟩, bz⟩
    obtain ⟨rfl, rfl⟩ := e2 trivial
    obtain ⟨_, _, hn2, _⟩ := hN.slice
    simp only [Value.slice.injEq] at hn2
    obtain rfl : n2 = q := by rw [hn2.2.1]; exact HLR.out
    obtain ⟨b3, G⟩ := mbox w1 #[.int .i64 R2, .int .i64 C2, .slice b2 n2 c2] 24 _ rfl
    have hA1 := hN.arg.behind b3
    have B := below_both bz b3
    clear hF hN e2 hn2 bz b3
    go_upto_region 4 with (fail)
    generalize w1.alloc (.cells #[.int .i64 R2, .int .i64 C2, .slice b2 n2 c2] 24) = W1 at *
    generalize w1.heap.size = g at *
    have HA1 : Hid (∀ W, Below W1.heap.size W1 W → Arg W (.slice b2 n2 c2) L) := Lib.hid (fun W h => hA1.behind h)
    have HK : Hid (∀ W, Below W1.heap.size W1 W → W.cell? ⟨g, 0, none⟩ = some (.int .i64 R2) ∧ W.cell? ⟨g, 1, none⟩ = some (.int .i64 C2) ∧ W.cell? ⟨g, 2, none⟩ = some (.slice b2 n2 c2)) := Lib.hid (fun W h => ⟨(G.behind h).cell (i := 0) rfl, (G.behind h).cell (i := 1) rfl, (G.behind h).cell (i := 2) rfl⟩)
    have Br : Below W1.heap.size W1 W1 := Below.refl _ _
    clear hA1 G
    go_region_held3 (fun W => W.cell? ⟨g, 0, none⟩ = some (.int .i64 R2) ∧ W.cell? ⟨g, 1, none⟩ = some (.int .i64 C2) ∧ W.cell? ⟨g, 2, none⟩ = some (.slice b2 n2 c2))
      (first | with_reducible exact HK.out _ Br | with_reducible exact HK.out _ Br.drew | (fail))
      (first
        | (go_at_call 60; (refine (mw_tiles).mono ?_); rintro e v1 ⟨pt, rfl, hpt, bz⟩; (first | with_reducible replace hT := hT.behind bz | replace hT := hT.drew.behind bz | skip); (first | with_reducible replace Br := below_both Br bz | replace Br := below_both Br.drew bz); clear bz)
        | (go_at_call 38; (first | (with_reducible refine (HS.out _ _ _ (HA1.out _ Br)).mono ?_) | (refine (HS.out _ _ _ (HA1.out _ Br.drew)).mono ?_)); rintro e v2 ⟨R3, C3, bb, nn, cc, rfl, hT, hr3, bz⟩; have HR3 := Lib.hid hr3; clear hr3; (first | with_reducible replace hpt := hpt.behind bz | replace hpt := hpt.drew.behind bz | skip); (first | with_reducible replace Br := below_both Br bz | replace Br := below_both Br.drew bz); clear bz)
        | (go_at_call 84; (refine (HC.out _ _ _ _ _ _ _ hpt hT.arg HR3.out).mono ?_); rintro e v3 ⟨v, rfl, hv, bz⟩; replace Br := below_both Br bz; clear bz)
        | (fail))
    go_wp2
    go_ret2
    exact ⟨v, rfl, hv, below_both B Br⟩
  · have hmp : mpE R C t m xs x = frE R C t m := by unfold mpE; rw [if_pos hE]
    rw [hmp]
    have hn : ∀ W', Below w.heap.size w W' → Arg W' (.slice none 0 0) (if frE R C t m = 0 then toL R C t (scalV x (frL R C t xs)) else []) := fun W' hb => by
      rw [if_neg hE]
      exact ⟨0, Nat.lt_of_lt_of_le hpos hb.size, .inl ⟨⟨_, _, rfl⟩, rfl⟩⟩
    have HN := Lib.hid hn
    obtain ⟨Z, hZ⟩ : ∃ Z, Z = if frE R C t m = 0 then toL R C t (scalV x (frL R C t xs)) else [] := ⟨_, rfl⟩
    rw [← hZ] at HN ⊢
    clear hZ
    obtain ⟨Y, hY⟩ : ∃ Y, Y = if frE R C t m = 0 then frL R C t xs else [] := ⟨_, rfl⟩
    rw [← hY] at hF
    clear hY
    have q : (frE R C t m != 0) = true := bne_iff_ne.2 hE
    clear hn lx hA h1 h2 hpos hmp
    generalize frE R C t m = E at *
    clear hE
    go_enter Try.func35, Try.ntmps35
    go_wp2_with fail
    refine hF.mono ?_
    rintro e w1 ⟨R2, C2, b2, n2, c2, rfl, hN, -, bz⟩
    obtain ⟨b3, G⟩ := mbox w1 #[.int .i64 R2, .int .i64 C2, .slice b2 n2 c2] 24 _ rfl
    have B := below_both bz b3
    clear hF hN bz b3
    go_wp2
    go_ret2
    exact ⟨_, rfl, HN.out _ B, B⟩
end Go.Proofs.Ytjapilpjahhimaa

/- mwino: Mul. -/
namespace Go.Proofs.Ytjapilpjahhimaa
open Go.RowKit Go.Shelf
/-- Mul's error, and its words -/
def mwE (m k n t cut : Int) (m1 m2 : Nat) (xs ys : List Nat) : Int := if frE m k t m1 ≠ 0 then frE m k t m1 else if frE k n t m2 ≠ 0 then frE k n t m2 else prE m k k n (m.toNat * k.toNat) (k.toNat * n.toNat) (frL m k t xs) (frL k n t ys) cut
def mwL (m k n t cut : Int) (xs ys : List Nat) : List Nat := prL m k n (frL m k t xs) (frL k n t ys) cut
theorem mwE_first {m k n t cut : Int} {m1 m2 : Nat} {xs ys : List Nat} (h : frE m k t m1 ≠ 0) : mwE m k n t cut m1 m2 xs ys = frE m k t m1 := by unfold mwE; rw [if_pos h]
theorem mwE_second {m k n t cut : Int} {m1 m2 : Nat} {xs ys : List Nat} (h0 : frE m k t m1 = 0) (h : frE k n t m2 ≠ 0) : mwE m k n t cut m1 m2 xs ys = frE k n t m2 := by unfold mwE; rw [if_neg (by simp [h0]), if_pos h]
theorem mwE_last {m k n t cut : Int} {m1 m2 : Nat} {xs ys : List Nat} (h0 : frE m k t m1 = 0) (h : frE k n t m2 = 0) : mwE m k n t cut m1 m2 xs ys = prE m k k n (m.toNat * k.toNat) (k.toNat * n.toNat) (frL m k t xs) (frL k n t ys) cut := by unfold mwE; rw [if_neg (by simp [h0]), if_neg (by simp [h])]
theorem prL_length {R C C2 cut : Int} {xs ys : List Nat} : (prL R C C2 xs ys cut).length = R.toNat * C2.toNat := by unfold prL prodS; exact rowV_length _ _
theorem told_arg {R C : Int} {m : Nat} {E : Int} {L : List Nat} {n : Nat} {e : Ending} {W' : World} (hp : 0 < W'.heap.size) (h : Told R C m E L n e W') : ∃ R2 C2 b q c, e = .returned (.tuple #[.agg #[.int .i64 R2, .int .i64 C2, .slice b q c], .int .i64 E]) ∧ Arg W' (.slice b q c) (if E = 0 then L else []) ∧ ((E = 0 → R2 = R ∧ C2 = C) ∧ (E ≠ 0 → R2 = 0 ∧ C2 = 0)) := by
  obtain ⟨r, c, b, q, cc, he, hx⟩ := h
  rcases hx with ⟨h0, h1, h2, _, hN⟩ | ⟨h0, h1, h2, h3, h4, h5⟩
  · exact ⟨r, c, b, q, cc, he, by rw [if_pos h0]; exact hN.arg, ⟨fun _ => ⟨h1, h2⟩, fun h => absurd h0 h⟩⟩
  · refine ⟨r, c, b, q, cc, he, ?_, ⟨fun h => absurd h h0, fun _ => ⟨h1, h2⟩⟩⟩
    rw [if_neg h0, h3, h4, h5]
    exact ⟨0, hp, .inl ⟨⟨_, _, rfl⟩, rfl⟩⟩
set_option maxRecDepth 100000 in
set_option maxHeartbeats 16000000 in
theorem mw_mul {a b : Option Addr} {m1 cap1 m2 cap2 : Nat} {m k n t cut : Int} {xs ys : List Nat} {w : World} (hA : Arg w (.slice a m1 cap1) xs) (hB : Arg w (.slice b m2 cap2) ys) (lx : Low 18446744073709551616 xs) (ly : Low 18446744073709551616 ys) (h1 : -9223372036854775808 ≤ t) (h2 : t ≤ 9223372036854775807) :
    Calls Try.prog 31 #[.slice a m1 cap1, .slice b m2 cap2, .int .i64 m, .int .i64 k, .int .i64 n, .int .i64 t, .int .i64 cut] w fun e W' => ∃ v, e = .returned (.tuple #[v, .int .i64 (mwE m k n t cut m1 m2 xs ys)]) ∧ Arg W' v (if mwE m k n t cut m1 m2 xs ys = 0 then toL m n t (mwL m k n t cut xs ys) else []) ∧ Below w.heap.size w W' := by
  have hpos : 0 < w.heap.size := by obtain ⟨S, hS, _⟩ := hA; omega
  have HF1 : Hid (∀ W, Below w.heap.size w W → _) := Lib.hid (fun W h => mo_fromA (R := m) (C := k) (w := W) (hA.behind h) h1 h2)
  have HF2 : Hid (∀ W, Below w.heap.size w W → _) := Lib.hid (fun W h => mo_fromA (R := k) (C := n) (w := W) (hB.behind h) h1 h2)
  have HL1 := Lib.hid (And.intro (frL_low (R := m) (C := k) (t := t) lx) (frL_length (R := m) (C := k) (t := t) (xs := xs)))
  have HL2 := Lib.hid (And.intro (frL_low (R := k) (C := n) (t := t) ly) (frL_length (R := k) (C := n) (t := t) (xs := ys)))
  have HP : Hid (∀ W b1 c1 b2 c2, Arg W (.slice b1 (m.toNat * k.toNat) c1) (frL m k t xs) → Arg W (.slice b2 (k.toNat * n.toNat) c2) (frL k n t ys) → _) := Lib.hid (fun W b1 c1 b2 c2 g1 g2 => wi_product (R := m) (C := k) (R2 := k) (C2 := n) (cut := cut) (w := W) g1 g2 HL1.out.1 HL2.out.1)
  have HC : Hid (frE m k t m1 = 0 → frE k n t m2 = 0 → ∀ (W : World) (g : Nat) R2 C2 b n2 cc, Ms W g #[.int .i64 t] 3 → Arg W (.slice b n2 cc) (if mwE m k n t cut m1 m2 xs ys = 0 then mwL m k n t cut xs ys else []) → (mwE m k n t cut m1 m2 xs ys = 0 → R2 = m ∧ C2 = n) → _) := Lib.hid (fun e1 e2 W g R2 C2 b n2 cc h h' h'' => mw_close (R := m) (C := n) (R2 := R2) (C2 := C2) (E := mwE m k n t cut m1 m2 xs ys) (L := mwL m k n t cut xs ys) (w := W) h h' h'' (fun _ => by
    obtain ⟨⟨p1, p2, p3, p4, p5, p6⟩, -⟩ := frE_zero e1
    obtain ⟨⟨q1, q2, q3, q4, q5, q6⟩, -⟩ := frE_zero e2
    refine ⟨mayM_iff.2 ⟨p1, p2, q3, q4, ?_⟩, sideOK_iff.2 ⟨p1, p2, q3, q4, p5, p6⟩⟩
    unfold mwL
    rw [prL_length, Int.natCast_mul, Int.toNat_of_nonneg (by omega), Int.toNat_of_nonneg (by omega)]) h1 h2)
  have HE1 : Hid (frE m k t m1 ≠ 0 → mwE m k n t cut m1 m2 xs ys = frE m k t m1) := Lib.hid mwE_first
  have HE2 : Hid (frE m k t m1 = 0 → frE k n t m2 ≠ 0 → mwE m k n t cut m1 m2 xs ys = frE k n t m2) := Lib.hid mwE_second
  have HE3 : Hid (frE m k t m1 = 0 → frE k n t m2 = 0 → mwE m k n t cut m1 m2 xs ys = prE m k k n (m.toNat * k.toNat) (k.toNat * n.toNat) (frL m k t xs) (frL k n t ys) cut) := Lib.hid mwE_last
  have HML : Hid (mwL m k n t cut xs ys = prL m k n (frL m k t xs) (frL k n t ys) cut) := Lib.hid rfl
  generalize mwE m k n t cut m1 m2 xs ys = E at *
  generalize mwL m k n t cut xs ys = ML at *
  generalize frL m k t xs = L1 at *
  generalize frL k n t ys = L2 at *
  generalize frE m k t m1 = E1 at *
  generalize frE k n t m2 = E2 at *
  obtain ⟨N1, hN1⟩ : ∃ q, q = m.toNat * k.toNat := ⟨_, rfl⟩
  obtain ⟨N2, hN2⟩ : ∃ q, q = k.toNat * n.toNat := ⟨_, rfl⟩
  rw [← hN1] at HL1 HE3 HP
  rw [← hN2] at HL2 HE3 HP
  obtain ⟨Z, hZ⟩ : ∃ Z, Z = if E = 0 then toL m n t ML else [] := ⟨_, rfl⟩
  obtain ⟨Y, hY⟩ : ∃ Z, Z = if E = 0 then ML else [] := ⟨_, rfl⟩
  rw [← hZ] at HC ⊢
  rw [← hY] at HC
  have HZ := Lib.hid hZ
  have HY := Lib.hid hY
  obtain ⟨b1, G⟩ := mbox w #[.int .i64 0, .int .i64 0, .slice none 0 0, .int .i64 0, .int .i64 0, .slice none 0 0] 71 _ rfl
  have y0 : ∀ w : World, (Instr.index 90 (.agg #[.slice a m1 cap1, .int .i64 m, .int .i64 k, .slice b m2 cap2, .int .i64 k, .int .i64 n]) (.int .i64 0)).run Try.prog w = .ok (.agg #[.slice a m1 cap1, .int .i64 m, .int .i64 k]) w := fun _ => by kernel_rfl
  have y1 : ∀ w : World, (Instr.index 90 (.agg #[.slice a m1 cap1, .int .i64 m, .int .i64 k, .slice b m2 cap2, .int .i64 k, .int .i64 n]) (.int .i64 1)).run Try.prog w = .ok (.agg #[.slice b m2 cap2, .int .i64 k, .int .i64 n]) w := fun _ => by kernel_rfl
  have he := enters_of Try.func84 (by kernel_rfl) rfl
  clear hA hB lx ly h1 h2 hN1 hN2 hZ hY
  go_enter Try.func31, Try.ntmps31
  go_wp2
  generalize w.alloc (.cells #[.int .i64 0, .int .i64 0, .slice none 0 0, .int .i64 0, .int .i64 0, .slice none 0 0] 71) = W0 at *
  go_loopw [30] (fun i wr => ∃ (q : Nat) (z : Int) (arr : Array Value), q ≤ 2 ∧ z = q ∧ i = .int .i64 z ∧ Ms wr w.heap.size arr 71 ∧ Below w.heap.size w wr ∧ ((q = 0 ∧ arr = #[.int .i64 0, .int .i64 0, .slice none 0 0, .int .i64 0, .int .i64 0, .slice none 0 0]) ∨ (q = 1 ∧ E1 = 0 ∧ ∃ b1 c1, arr = #[.int .i64 m, .int .i64 k, .slice b1 N1 c1, .int .i64 0, .int .i64 0, .slice none 0 0] ∧ New (w.heap.size + 1) wr (.slice b1 N1 c1) L1) ∨ (q = 2 ∧ E1 = 0 ∧ E2 = 0 ∧ ∃ b1 c1 b2 c2, arr = #[.int .i64 m, .int .i64 k, .slice b1 N1 c1, .int .i64 k, .int .i64 n, .slice b2 N2 c2] ∧ New (w.heap.size + 1) wr (.slice b1 N1 c1) L1 ∧ New (w.heap.size + 1) wr (.slice b2 N2 c2) L2))) (fun i _ => 2 - (intOf i).toNat)
  case atStart => exact ⟨0, 0, _, by omega, rfl, rfl, G, b1, .inl ⟨rfl, rfl⟩⟩
  case round =>
    clear G b1
    obtain ⟨q, z, arr, hq, hz, rfl, hM, hB, hrest⟩ := hrel
    rcases hrest with ⟨rfl, harr⟩ | ⟨rfl, hrest⟩ | ⟨rfl, hrest⟩
    · as_aux_lemma =>
      obtain rfl : z = 0 := hz
      subst harr
      have hF := HF1.out (wr.alloc (.cells #[.slice a m1 cap1, .int .i64 m, .int .i64 k] 89)) (below_both hB (bel_new wr _))
      obtain ⟨bA, GA⟩ := mbox wr #[.slice a m1 cap1, .int .i64 m, .int .i64 k] 89 _ rfl
      have hsz : w.heap.size + 1 ≤ wr.heap.size := hM.lt
      have HSZ : Hid (w.heap.size + 1 ≤ (wr.alloc (.cells #[.slice a m1 cap1, .int .i64 m, .int .i64 k] 89)).heap.size) := Lib.hid (Nat.le_trans hsz bA.size)
      have a0 := GA.cell (i := 0) rfl
      have a1 := GA.cell (i := 1) rfl
      have a2 := GA.cell (i := 2) rfl
      replace hM := hM.behind bA
      replace hB := below_both hB bA
      clear hsz
      go_wp2_with fail
      generalize wr.alloc (.cells #[.slice a m1 cap1, .int .i64 m, .int .i64 k] 89) = wa at *
      refine hF.mono ?_
      rintro e w2 ⟨R2, C2, b2, nn2, c2, rfl, hN, hr, b3⟩
      have HR := Lib.hid hr
      replace hN := hN.lower HSZ.out
      replace hM := hM.behind b3
      replace hB := below_both hB b3
      obtain ⟨b4, GM⟩ := mbox w2 #[.int .i64 R2, .int .i64 C2, .slice b2 nn2 c2] 24 _ rfl
      replace hM := hM.behind b4
      replace hB := below_both hB b4
      replace hN := hN.behind b4
      clear hF hr b3 b4 bA a0 a1 a2 GA HSZ
      have HBL : Hid (w.heap.size < w.heap.size + 1) := Lib.hid (Nat.lt_succ_self _)
      by_cases hE : E1 = 0
      · obtain ⟨rfl, rfl⟩ := HR.out.1 hE
        rw [if_pos hE] at hN
        obtain ⟨_, _, hn2, _⟩ := hN.slice
        simp only [Value.slice.injEq] at hn2
        obtain rfl : nn2 = N1 := by rw [hn2.2.1]; exact HL1.out.2
        have q : (E1 != 0) = false := by simp [hE]
        have HE := Lib.hid hE
        have g0 := GM.cell (i := 0) rfl
        have g1 := GM.cell (i := 1) rfl
        have g2 := GM.cell (i := 2) rfl
        have n0 := hM.cell (i := 0) rfl
        have n1 := hM.cell (i := 1) rfl
        have n2 := hM.cell (i := 2) rfl
        have f0 := hM.f 0
        have f1 := hM.f 1
        have f2 := hM.f 2
        clear hE hn2 HR
        go_wp2
        exact ⟨⟨1, 1, #[.int .i64 R2, .int .i64 C2, .slice b2 nn2 c2, .int .i64 0, .int .i64 0, .slice none 0 0], by omega, rfl, rfl, ((hM.set 0 _).set 1 _).set 2 _, ((hB.setCell (p := ⟨w.heap.size, 0, none⟩) (Nat.le_refl _) _).setCell (p := ⟨w.heap.size, 1, none⟩) (Nat.le_refl _) _).setCell (p := ⟨w.heap.size, 2, none⟩) (Nat.le_refl _) _, .inr (.inl ⟨rfl, HE.out, b2, c2, rfl, ((hN.cellFar HBL.out _).cellFar HBL.out _).cellFar HBL.out _⟩)⟩, by simp [intOf]⟩
      · have q : (E1 != 0) = true := bne_iff_ne.2 hE
        have hee : E = E1 := HE1.out hE
        have hzz : Z = [] := by rw [HZ.out, hee, if_neg hE]
        subst hzz
        subst hee
        clear hE hN
        have hBX := Lib.hid hB
        go_wp2
        go_ret2
        exact ⟨_, rfl, ⟨0, Nat.lt_of_lt_of_le hpos hBX.out.size, .inl ⟨⟨_, _, rfl⟩, rfl⟩⟩, hBX.out⟩
    · as_aux_lemma =>
      obtain rfl : z = 1 := hz
      obtain ⟨hE1, b1, c1, rfl, hN1⟩ := hrest
      have hF := HF2.out (wr.alloc (.cells #[.slice b m2 cap2, .int .i64 k, .int .i64 n] 89)) (below_both hB (bel_new wr _))
      obtain ⟨bA, GA⟩ := mbox wr #[.slice b m2 cap2, .int .i64 k, .int .i64 n] 89 _ rfl
      have hsz : w.heap.size + 1 ≤ wr.heap.size := hM.lt
      have HSZ : Hid (w.heap.size + 1 ≤ (wr.alloc (.cells #[.slice b m2 cap2, .int .i64 k, .int .i64 n] 89)).heap.size) := Lib.hid (Nat.le_trans hsz bA.size)
      have a0 := GA.cell (i := 0) rfl
      have a1 := GA.cell (i := 1) rfl
      have a2 := GA.cell (i := 2) rfl
      replace hM := hM.behind bA
      replace hB := below_both hB bA
      replace hN1 := hN1.behind bA
      clear hsz
      go_wp2_with fail
      generalize wr.alloc (.cells #[.slice b m2 cap2, .int .i64 k, .int .i64 n] 89) = wa at *
      refine hF.mono ?_
      rintro e w2 ⟨R2, C2, b2, nn2, c2, rfl, hN, hr, b3⟩
      have HR := Lib.hid hr
      replace hN := hN.lower HSZ.out
      replace hM := hM.behind b3
      replace hB := below_both hB b3
      replace hN1 := hN1.behind b3
      obtain ⟨b4, GM⟩ := mbox w2 #[.int .i64 R2, .int .i64 C2, .slice b2 nn2 c2] 24 _ rfl
      replace hM := hM.behind b4
      replace hB := below_both hB b4
      replace hN1 := hN1.behind b4
      replace hN := hN.behind b4
      clear hF hr b3 b4 bA a0 a1 a2 GA HSZ
      have HBL : Hid (w.heap.size < w.heap.size + 1) := Lib.hid (Nat.lt_succ_self _)
      have HN1 := Lib.hid hN1
      have HE0 := Lib.hid hE1
      clear hN1 hE1
      by_cases hE : E2 = 0
      · obtain ⟨rfl, rfl⟩ := HR.out.1 hE
        rw [if_pos hE] at hN
        obtain ⟨_, _, hn2, _⟩ := hN.slice
        simp only [Value.slice.injEq] at hn2
        obtain rfl : nn2 = N2 := by rw [hn2.2.1]; exact HL2.out.2
        have q : (E2 != 0) = false := by simp [hE]
        have HE := Lib.hid hE
        have g0 := GM.cell (i := 0) rfl
        have g1 := GM.cell (i := 1) rfl
        have g2 := GM.cell (i := 2) rfl
        have n0 := hM.cell (i := 3) rfl
        have n1 := hM.cell (i := 4) rfl
        have n2 := hM.cell (i := 5) rfl
        have f0 := hM.f 3
        have f1 := hM.f 4
        have f2 := hM.f 5
        clear hE hn2 HR
        go_wp2
        exact ⟨⟨2, 2, #[.int .i64 m, .int .i64 R2, .slice b1 N1 c1, .int .i64 R2, .int .i64 C2, .slice b2 nn2 c2], by omega, rfl, rfl, ((hM.set 3 _).set 4 _).set 5 _, ((hB.setCell (p := ⟨w.heap.size, 3, none⟩) (Nat.le_refl _) _).setCell (p := ⟨w.heap.size, 4, none⟩) (Nat.le_refl _) _).setCell (p := ⟨w.heap.size, 5, none⟩) (Nat.le_refl _) _, .inr (.inr ⟨rfl, HE0.out, HE.out, b1, c1, b2, c2, rfl, ((HN1.out.cellFar HBL.out _).cellFar HBL.out _).cellFar HBL.out _, ((hN.cellFar HBL.out _).cellFar HBL.out _).cellFar HBL.out _⟩)⟩, by simp [intOf]⟩
      · have q : (E2 != 0) = true := bne_iff_ne.2 hE
        have hee : E = E2 := HE2.out HE0.out hE
        have hzz : Z = [] := by rw [HZ.out, hee, if_neg hE]
        subst hzz
        subst hee
        clear hE hN
        have hBX := Lib.hid hB
        go_wp2
        go_ret2
        exact ⟨_, rfl, ⟨0, Nat.lt_of_lt_of_le hpos hBX.out.size, .inl ⟨⟨_, _, rfl⟩, rfl⟩⟩, hBX.out⟩
    · obtain rfl : z = 2 := hz
      obtain ⟨hE1, hE2, b1, c1, b2, c2, rfl, hN1, hN2⟩ := hrest
      obtain ⟨W1, rfl⟩ : ∃ wo, wo = wr := ⟨_, rfl⟩
      have hee := HE3.out hE1 hE2
      rw [← hee, ← HML.out] at HP
      have HCC := Lib.hid (HC.out hE1 hE2)
      have HNN := Lib.hid (And.intro hN1 hN2)
      have HA1 : Hid (∀ W, Below W1.heap.size W1 W → Arg W (.slice b1 N1 c1) L1 ∧ Arg W (.slice b2 N2 c2) L2) := Lib.hid (fun W h => ⟨HNN.out.1.arg.behind h, HNN.out.2.arg.behind h⟩)
      have HK : Hid (∀ W, Below W1.heap.size W1 W → W.cell? ⟨w.heap.size, 0, none⟩ = some (.int .i64 m) ∧ W.cell? ⟨w.heap.size, 1, none⟩ = some (.int .i64 k) ∧ W.cell? ⟨w.heap.size, 2, none⟩ = some (.slice b1 N1 c1) ∧ W.cell? ⟨w.heap.size, 3, none⟩ = some (.int .i64 k) ∧ W.cell? ⟨w.heap.size, 4, none⟩ = some (.int .i64 n) ∧ W.cell? ⟨w.heap.size, 5, none⟩ = some (.slice b2 N2 c2)) := Lib.hid (fun W h => ⟨(hM.behind h).cell (i := 0) rfl, (hM.behind h).cell (i := 1) rfl, (hM.behind h).cell (i := 2) rfl, (hM.behind h).cell (i := 3) rfl, (hM.behind h).cell (i := 4) rfl, (hM.behind h).cell (i := 5) rfl⟩)
      have Br : Below W1.heap.size W1 W1 := Below.refl _ _
      have HB := Lib.hid hB
      have HPO : Hid (∀ W, Below W1.heap.size W1 W → 0 < W.heap.size) := Lib.hid (fun W h => by have := h.size; have := HB.out.size; omega)
      clear hN1 hN2 hM hee HE1 HE2 HE3 HF1 HF2 HC hE1 hE2 HNN y0 y1 hB HL1 HL2 HML HZ
      go_upto_region 10 with (fail)
      go_region_held3 (fun W => W.cell? ⟨w.heap.size, 0, none⟩ = some (.int .i64 m) ∧ W.cell? ⟨w.heap.size, 1, none⟩ = some (.int .i64 k) ∧ W.cell? ⟨w.heap.size, 2, none⟩ = some (.slice b1 N1 c1) ∧ W.cell? ⟨w.heap.size, 3, none⟩ = some (.int .i64 k) ∧ W.cell? ⟨w.heap.size, 4, none⟩ = some (.int .i64 n) ∧ W.cell? ⟨w.heap.size, 5, none⟩ = some (.slice b2 N2 c2))
        (first | with_reducible exact HK.out _ Br | with_reducible exact HK.out _ Br.drew | (fail))
        (first
          | (go_at_call 60; (refine (mw_tiles).mono ?_); rintro e v1 ⟨pt, rfl, hpt, bz⟩; (first | with_reducible replace hT := hT.behind bz | replace hT := hT.drew.behind bz | skip); (first | with_reducible replace Br := below_both Br bz | replace Br := below_both Br.drew bz); clear bz)
          | (go_at_call 12; (first | (with_reducible refine (HP.out _ _ _ _ _ (HA1.out _ Br).1 (HA1.out _ Br).2).mono ?_) | (refine (HP.out _ _ _ _ _ (HA1.out _ Br.drew).1 (HA1.out _ Br.drew).2).mono ?_)); rintro e v2 ⟨hT, bz⟩; (first | with_reducible replace hpt := hpt.behind bz | replace hpt := hpt.drew.behind bz | skip); (first | with_reducible replace Br := below_both Br bz | replace Br := below_both Br.drew bz); obtain ⟨R3, C3, bb, nn, cc, rfl, hT, hr3⟩ := told_arg (HPO.out _ Br) hT; rw [← HY.out] at hT; have HR3 := Lib.hid hr3; clear hr3; clear bz)
          | (go_at_call 84; (refine (HCC.out _ _ _ _ _ _ _ hpt hT HR3.out.1).mono ?_); rintro e v3 ⟨v, rfl, hv, bz⟩; replace Br := below_both Br bz; clear bz)
          | (fail))
      go_wp2
      go_ret2
      exact ⟨v, rfl, hv, HB.out.trans (Br.mono HB.out.size)⟩
end Go.Proofs.Ytjapilpjahhimaa

/- The laws MwinoPlain, MwinoTells, MwinoTiles, walked. -/
namespace Go.Proofs.Ytjapilpjahhimaa
open Go.RowKit Go.Shelf
theorem mw_same {va vb : Value} {xs : List Nat} {w : World} (hA : Arg w va xs) (hB : Arg w vb xs) (hl : xs.length ≤ 17592186044416) :
    Calls Try.prog 34 #[va, vb] w fun e W' => e = .returned (.bool true) ∧ Below w.heap.size w W' := by
  obtain ⟨b, _, h1⟩ := hA
  obtain ⟨d, _, h2⟩ := hB
  exact same_true b d va vb xs (by omega) w h1 h2
theorem toL_length {R C t : Int} {zs : List Nat} (h : sideOK R C t = true) : (toL R C t zs).length ≤ 262144 := by
  have := sideOK_iff.1 h
  unfold toL
  rw [layW_length]
  exact sizN_le (by omega) (by omega) (by omega)
theorem l28_one : frE 1 1 1 1 = 0 ∧ frL 1 1 1 [4611686018427387904] = [4611686018427387904] := by
  constructor
  · decide
  · decide
theorem l28_mul : mwE 1 1 1 1 1 1 1 [4611686018427387904] [4611686018427387904] = 0 ∧ toL 1 1 1 (mwL 1 1 1 1 1 [4611686018427387904] [4611686018427387904]) = [4616189618054758400] := by
  have h := l26_prod
  constructor
  · rw [mwE_last l28_one.1 l28_one.1, l28_one.2]
    exact h.2
  · unfold mwL
    rw [l28_one.2, h.1]
    decide
set_option maxRecDepth 100000 in
set_option maxHeartbeats 4000000 in
theorem l28_alive (w : World) (_hpos : 0 < w.heap.size) : Calls Try.prog 30 #[] w fun e W' => e = .returned (.bool true) ∧ Below w.heap.size w W' := by
  have b1 := bel_new w (.cells #[.int .u64 4611686018427387904] 49)
  have b2 := bel_new (w.alloc (.cells #[.int .u64 4611686018427387904] 49)) (.cells #[.int .u64 4611686018427387904] 49)
  have af : Arg (w.alloc (.cells #[.int .u64 4611686018427387904] 49)) (.slice (some ⟨w.heap.size, 0, none⟩) 1 1) [4611686018427387904] := by
    refine ⟨w.heap.size, by rw [World.size_alloc]; omega, .inr ⟨0, 1, rfl, Nat.le_refl _, fun j hj => ?_⟩⟩
    have : j = 0 := by simp at hj; omega
    subst this
    rw [World.cell?_alloc_new]; rfl
  have ag : Arg ((w.alloc (.cells #[.int .u64 4611686018427387904] 49)).alloc (.cells #[.int .u64 4611686018427387904] 49)) (.slice (some ⟨w.heap.size + 1, 0, none⟩) 1 1) [4611686018427387904] := by
    refine ⟨w.heap.size + 1, by rw [World.size_alloc, World.size_alloc]; omega, .inr ⟨0, 1, rfl, Nat.le_refl _, fun j hj => ?_⟩⟩
    have : j = 0 := by simp at hj; omega
    subst this
    obtain ⟨_, G⟩ := mbox (w.alloc (.cells #[.int .u64 4611686018427387904] 49)) #[.int .u64 4611686018427387904] 49 _ rfl
    simp only [World.size_alloc] at G
    exact G.cell (i := 0) rfl
  have hm := mw_mul (m := 1) (k := 1) (n := 1) (t := 1) (cut := 1) (af.behind b2) ag (low_word (by decide)) (low_word (by decide)) (by decide) (by decide)
  rw [l28_mul.1, l28_mul.2] at hm
  simp only [if_true] at hm
  have B := below_both b1 b2
  clear af ag b1 b2
  go_enter Try.func30, Try.ntmps30
  go_wp2_with fail
  refine hm.mono ?_
  rintro e w2 ⟨v, rfl, hv, bz⟩
  replace B := below_both B bz
  obtain ⟨a, cap, rfl⟩ := hv.slice
  obtain ⟨S, o, rfl, -, hS, hx⟩ := hv.one
  have c0 := hx.out _ (Below.refl _ _)
  simp only [List.length_cons, List.length_nil, Nat.zero_add]
  clear hm hv hx hS
  go_wp2
  go_ret
  exact ⟨rfl, B⟩
set_option maxRecDepth 100000 in
set_option maxHeartbeats 8000000 in
theorem mwinoTells_calls {va vb : Value} {m k n t cut : Int} {xs ys : List Nat} {w : World} (hA : Arg w va xs) (hB : Arg w vb ys) (lx : Low 18446744073709551616 xs) (ly : Low 18446744073709551616 ys) (h1 : -9223372036854775808 ≤ t) (h2 : t ≤ 9223372036854775807) :
    Calls Try.prog 8 #[va, vb, .int .i64 m, .int .i64 k, .int .i64 n, .int .i64 t, .int .i64 cut] w fun e W' => e = .returned (.bool true) ∧ Below w.heap.size w W' := by
  have hpos : 0 < w.heap.size := by obtain ⟨S, hS, _⟩ := hA; omega
  obtain ⟨a, cap1, rfl⟩ := hA.slice
  obtain ⟨b, cap2, rfl⟩ := hB.slice
  generalize hm1 : xs.length = m1 at *
  generalize hm2 : ys.length = m2 at *
  have hal := l28_alive w hpos
  have HM : Hid (∀ W, Below w.heap.size w W → _) := Lib.hid (fun W h => mw_mul (m := m) (k := k) (n := n) (t := t) (cut := cut) (w := W) (hA.behind h) (hB.behind h) lx ly h1 h2)
  have HF1 : Hid (∀ W, Below w.heap.size w W → _) := Lib.hid (fun W h => mo_fromA (R := m) (C := k) (w := W) (hA.behind h) h1 h2)
  have HF2 : Hid (∀ W, Below w.heap.size w W → _) := Lib.hid (fun W h => mo_fromA (R := k) (C := n) (w := W) (hB.behind h) h1 h2)
  have HL1 := Lib.hid (And.intro (frL_low (R := m) (C := k) (t := t) lx) (frL_length (R := m) (C := k) (t := t) (xs := xs)))
  have HL2 := Lib.hid (And.intro (frL_low (R := k) (C := n) (t := t) ly) (frL_length (R := k) (C := n) (t := t) (xs := ys)))
  have HP : Hid (∀ W b1 c1 b2 c2, Arg W (.slice b1 (m.toNat * k.toNat) c1) (frL m k t xs) → Arg W (.slice b2 (k.toNat * n.toNat) c2) (frL k n t ys) → _) := Lib.hid (fun W b1 c1 b2 c2 g1 g2 => wi_product (R := m) (C := k) (R2 := k) (C2 := n) (cut := cut) (w := W) g1 g2 HL1.out.1 HL2.out.1)
  have HSD : Hid (frE m k t m1 = 0 → frE k n t m2 = 0 → sideOK m n t = true ∧ mayM m n (mwL m k n t cut xs ys).length = true) := Lib.hid (fun e1 e2 => by
    obtain ⟨⟨p1, p2, p3, p4, p5, p6⟩, -⟩ := frE_zero e1
    obtain ⟨⟨q1, q2, q3, q4, q5, q6⟩, -⟩ := frE_zero e2
    refine ⟨sideOK_iff.2 ⟨p1, p2, q3, q4, p5, p6⟩, mayM_iff.2 ⟨p1, p2, q3, q4, ?_⟩⟩
    unfold mwL
    rw [prL_length, Int.natCast_mul, Int.toNat_of_nonneg (by omega), Int.toNat_of_nonneg (by omega)])
  have HE1 : Hid (frE m k t m1 ≠ 0 → mwE m k n t cut m1 m2 xs ys = frE m k t m1) := Lib.hid mwE_first
  have HE2 : Hid (frE m k t m1 = 0 → frE k n t m2 ≠ 0 → mwE m k n t cut m1 m2 xs ys = frE k n t m2) := Lib.hid mwE_second
  have HE3 : Hid (frE m k t m1 = 0 → frE k n t m2 = 0 → mwE m k n t cut m1 m2 xs ys = prE m k k n (m.toNat * k.toNat) (k.toNat * n.toNat) (frL m k t xs) (frL k n t ys) cut) := Lib.hid mwE_last
  have HML : Hid (mwL m k n t cut xs ys = prL m k n (frL m k t xs) (frL k n t ys) cut) := Lib.hid rfl
  have HTL : Hid (sideOK m n t = true → (toL m n t (mwL m k n t cut xs ys)).length ≤ 262144) := Lib.hid toL_length
  have HTO : Hid (∀ (W : World) b c zs, Arg W (.slice b zs.length c) zs → _) := Lib.hid (fun W b c zs h => mo_toA (R := m) (C := n) (w := W) h h1 h2)
  generalize mwE m k n t cut m1 m2 xs ys = E at *
  generalize mwL m k n t cut xs ys = ML at *
  generalize frL m k t xs = L1 at *
  generalize frL k n t ys = L2 at *
  generalize frE m k t m1 = E1 at *
  generalize frE k n t m2 = E2 at *
  have B := Below.refl w.heap.size w
  clear hA hB lx ly h1 h2 hm1 hm2 hpos
  go_enter Try.func8, Try.ntmps8
  go_wp2_with fail
  refine hal.mono ?_
  rintro e w1 ⟨rfl, bz⟩
  replace B := below_both B bz
  clear bz hal
  go_wp2_with fail
  refine (HM.out _ B).mono ?_
  rintro e w2 ⟨v, rfl, hv, bz⟩
  replace B := below_both B bz
  clear bz
  obtain ⟨av, cv, rfl⟩ := hv.slice
  obtain ⟨nv, hnv⟩ : ∃ q, q = (if E = 0 then toL m n t ML else []).length := ⟨_, rfl⟩
  rw [← hnv] at hv ⊢
  have HNV := Lib.hid hnv
  clear hnv
  go_wp2_with fail
  refine (HF1.out _ B).mono ?_
  rintro e w3 ⟨R1, C1, b1, n1, c1, rfl, hN1, hr1, bz⟩
  obtain ⟨j, G1⟩ := mbox w3 #[.int .i64 R1, .int .i64 C1, .slice b1 n1 c1] 24 _ rfl
  replace bz := below_both bz j
  replace B := below_both B bz
  replace hv := hv.behind bz
  replace hN1 := hN1.behind j
  have HR1 := Lib.hid hr1
  clear bz j hr1
  by_cases hE1 : E1 = 0
  · obtain ⟨rfl, rfl⟩ := HR1.out.1 hE1
    rw [if_pos hE1] at hN1
    have q1 : (E1 != 0) = false := by simp [hE1]
    have HZ1 := Lib.hid hE1
    obtain ⟨_, _, hn, _⟩ := hN1.slice
    simp only [Value.slice.injEq] at hn
    obtain rfl : n1 = R1.toNat * C1.toNat := by rw [hn.2.1]; exact HL1.out.2
    clear hE1 hn
    go_wp2_with fail
    generalize w3.alloc (.cells #[.int .i64 R1, .int .i64 C1, .slice b1 (R1.toNat * C1.toNat) c1] 24) = w4 at *
    refine (HF2.out _ B).mono ?_
    rintro e w5 ⟨R2, C2, b2, n2, c2, rfl, hN2, hr2, bz⟩
    obtain ⟨j, G2⟩ := mbox w5 #[.int .i64 R2, .int .i64 C2, .slice b2 n2 c2] 24 _ rfl
    replace bz := below_both bz j
    replace B := below_both B bz
    replace hv := hv.behind bz
    replace hN1 := hN1.behind bz
    replace G1 := G1.behind bz
    replace hN2 := hN2.behind j
    have HR2 := Lib.hid hr2
    clear bz j hr2
    by_cases hE2 : E2 = 0
    · obtain ⟨rfl, rfl⟩ := HR2.out.1 hE2
      rw [if_pos hE2] at hN2
      have q2 : (E2 != 0) = false := by simp [hE2]
      have HZ2 := Lib.hid hE2
      obtain ⟨_, _, hn, _⟩ := hN2.slice
      simp only [Value.slice.injEq] at hn
      obtain rfl : n2 = R2.toNat * C2.toNat := by rw [hn.2.1]; exact HL2.out.2
      have hee := HE3.out HZ1.out hE2
      rw [← hee, ← HML.out] at HP
      have HSS := Lib.hid (HSD.out HZ1.out hE2)
      clear hE2 hn hee HF1 HF2 HM
      have c0 := G1.cell (i := 0) rfl
      have c1' := G1.cell (i := 1) rfl
      have c2' := G1.cell (i := 2) rfl
      have d0 := G2.cell (i := 0) rfl
      have d1 := G2.cell (i := 1) rfl
      have d2 := G2.cell (i := 2) rfl
      go_wp2_with fail
      generalize w5.alloc (.cells #[.int .i64 R2, .int .i64 C2, .slice b2 (R2.toNat * C2.toNat) c2] 24) = w6 at *
      refine (HP.out _ _ _ _ _ hN1.arg hN2.arg).mono ?_
      rintro e w7 ⟨hT, bz⟩
      obtain ⟨R3, C3, b3, n3, c3, rfl, hQ, hr3⟩ := told_arg (by have := bz.size; have := G2.lt; omega) hT
      obtain ⟨j, G3⟩ := mbox w7 #[.int .i64 R3, .int .i64 C3, .slice b3 n3 c3] 24 _ rfl
      replace bz := below_both bz j
      replace B := below_both B bz
      replace hv := hv.behind bz
      replace hQ := hQ.behind j
      clear hT
      have HR3 := Lib.hid hr3
      clear bz j hr3 c0 c1' c2' d0 d1 d2 G1 G2 hN1 hN2
      by_cases hE : E = 0
      · subst hE
        obtain ⟨rfl, rfl⟩ := HR3.out.1 rfl
        simp only [if_true] at hQ hv
        obtain ⟨_, _, hn⟩ := hQ.slice
        simp only [Value.slice.injEq] at hn
        obtain ⟨-, rfl, -⟩ := hn
        have hto := HTO.out _ _ _ _ hQ
        rw [show toE R3 C3 ML.length t = 0 by unfold toE; rw [if_pos ⟨HSS.out.2, HSS.out.1⟩]] at hto
        simp only [if_true] at hto
        have HTT := Lib.hid (HTL.out HSS.out.1)
        have e0 := G3.cell (i := 0) rfl
        have e1 := G3.cell (i := 1) rfl
        have e2 := G3.cell (i := 2) rfl
        clear hQ HTO HTL HSD
        generalize toL R3 C3 t ML = TT at *
        go_wp2_with fail
        generalize w7.alloc (.cells #[.int .i64 R3, .int .i64 C3, .slice b3 ML.length c3] 24) = w8 at *
        refine hto.mono ?_
        rintro e w9 ⟨v4, rfl, hv4, bz⟩
        replace B := below_both B bz
        replace hv := hv.behind bz
        have hsm := mw_same hv hv4 (by have := HTT.out; omega)
        clear bz hto e0 e1 e2 G3
        go_wp2_with fail
        refine hsm.mono ?_
        rintro e w10 ⟨rfl, bz⟩
        replace B := below_both B bz
        go_wp2
        go_ret
        exact ⟨rfl, B⟩
      · rw [if_neg hE] at hv
        have q3 : (E != 0) = true := bne_iff_ne.2 hE
        obtain rfl : nv = 0 := by rw [HNV.out, if_neg hE]; rfl
        clear hE hv hQ
        go_wp2
        go_ret
        exact ⟨rfl, B⟩
    · have hee := HE2.out HZ1.out hE2
      obtain rfl : nv = 0 := by rw [HNV.out, hee, if_neg hE2]; rfl
      subst hee
      have q3 : (E != 0) = true := bne_iff_ne.2 hE2
      clear hE2 hv
      go_wp2
      go_ret
      exact ⟨rfl, B⟩
  · have hee := HE1.out hE1
    obtain rfl : nv = 0 := by rw [HNV.out, hee, if_neg hE1]; rfl
    subst hee
    have q3 : (E != 0) = true := bne_iff_ne.2 hE1
    clear hE1 hv
    go_wp2
    go_ret
    exact ⟨rfl, B⟩
end Go.Proofs.Ytjapilpjahhimaa

/- The law MwinoPlain, walked. -/
namespace Go.Proofs.Ytjapilpjahhimaa
open Go.RowKit Go.Shelf
set_option maxRecDepth 100000 in
set_option maxHeartbeats 8000000 in
theorem mwinoPlain_calls {va : Value} {R C t : Int} {x : Nat} {xs : List Nat} {w : World} (hA : Arg w va xs) (lx : Low 18446744073709551616 xs) (hx : (x : Int) ≤ 18446744073709551615) (h1 : -9223372036854775808 ≤ t) (h2 : t ≤ 9223372036854775807) :
    Calls Try.prog 9 #[va, .int .i64 R, .int .i64 C, .int .i64 t, .int .u64 (x : Int)] w fun e W' => e = .returned (.bool true) ∧ Below w.heap.size w W' := by
  have hpos : 0 < w.heap.size := by obtain ⟨S, hS, _⟩ := hA; omega
  obtain ⟨a, cap1, rfl⟩ := hA.slice
  generalize hm1 : xs.length = m at *
  have hal := l28_alive w hpos
  have HM : Hid (∀ W, Below w.heap.size w W → _) := Lib.hid (fun W h => mw_map (R := R) (C := C) (t := t) (x := x) (w := W) (hA.behind h) lx hx h1 h2)
  have HTP : Hid (∀ W, Below w.heap.size w W → _) := Lib.hid (fun W h => mw_tp (R := R) (C := C) (t := t) (w := W) (hA.behind h) lx h1 h2)
  have HF : Hid (∀ W, Below w.heap.size w W → _) := Lib.hid (fun W h => mo_fromA (R := R) (C := C) (w := W) (hA.behind h) h1 h2)
  have B := Below.refl w.heap.size w
  by_cases hE : frE R C t m = 0
  · obtain ⟨⟨k1, k2, k3, k4, k5, k6⟩, -⟩ := frE_zero hE
    have hmp : mpE R C t m xs x = tellV (scalV x (frL R C t xs)) (scF R C (R.toNat * C.toNat) (frL R C t xs) x) := by unfold mpE; rw [if_neg (by simp [hE])]
    rw [hmp] at HM
    rw [hE] at HF HTP
    have hll := frL_low (R := R) (C := C) (t := t) lx
    have hle := frL_length (R := R) (C := C) (t := t) (xs := xs)
    clear hmp
    generalize frL R C t xs = L at *
    simp only [if_true] at HF HTP
    obtain ⟨E, hEE⟩ : ∃ E, E = tellV (scalV x L) (scF R C (R.toNat * C.toNat) L x) := ⟨_, rfl⟩
    rw [← hEE] at HM
    obtain ⟨r, rfl⟩ : ∃ r : Nat, R = r := ⟨R.toNat, by omega⟩
    obtain ⟨c, rfl⟩ : ∃ r : Nat, C = r := ⟨C.toNat, by omega⟩
    simp only [Int.toNat_natCast] at hEE HF HTP hle
    have hmm : mayM r c (r * c) = true := mayM_iff.2 ⟨k1, k2, k3, k4, by rw [Int.natCast_mul]⟩
    have hsl : (scalV x L).length = r * c := by unfold scalV; rw [rowV_length, hle]
    have hso1 : sideOK r c t = true := sideOK_iff.2 ⟨k1, k2, k3, k4, k5, k6⟩
    have hso2 : sideOK c r t = true := sideOK_iff.2 ⟨k3, k4, k1, k2, k5, k6⟩
    have HTN : Hid (∀ (W : World) b cc, Arg W (.slice b (r * c) cc) L → _) := Lib.hid (fun W b cc h => shape_turn (R := r) (C := c) (cap := cc) (a := b) (w := W) h hll hmm)
    have HS : Hid (∀ (W : World) b cc, Arg W (.slice b (r * c) cc) L → _) := Lib.hid (fun W b cc h => mat_scale (R := r) (C := c) (cap := cc) (a := b) (m := r * c) (w := W) hx h hll)
    have HT1 : Hid (∀ (W : World) b cc, Arg W (.slice b (r * c) cc) (trl r c L) → _) := Lib.hid (fun W b cc h => mo_toA (R := c) (C := r) (m := r * c) (t := t) (w := W) h h1 h2)
    rw [show toE c r (r * c) t = 0 by unfold toE; rw [if_pos ⟨mayM_iff.2 ⟨k3, k4, k1, k2, by rw [Nat.mul_comm, Int.natCast_mul]⟩, hso2⟩]] at HT1
    have HT2 : Hid (∀ (W : World) b cc, Arg W (.slice b (r * c) cc) (scalV x L) → _) := Lib.hid (fun W b cc h => mo_toA (R := r) (C := c) (m := r * c) (t := t) (w := W) h h1 h2)
    rw [show toE r c (r * c) t = 0 by unfold toE; rw [if_pos ⟨hmm, hso1⟩]] at HT2
    simp only [if_true] at HT1 HT2
    have HU := Lib.hid (toL_length (zs := trl r c L) hso2)
    have HV := Lib.hid (toL_length (zs := scalV x L) hso1)
    have HSL := Lib.hid (And.intro hsl hle)
    rw [← hEE] at HS
    clear hEE
    generalize toL c r t (trl r c L) = Y1 at *
    generalize toL r c t (scalV x L) = Y2 at *
    generalize trl r c L = TL at *
    generalize scalV x L = SL at *
    obtain ⟨q, hq⟩ : ∃ q, q = r * c := ⟨_, rfl⟩
    rw [← hq] at HTN HS HT1 HT2 HSL
    clear hA lx hx h1 h2 hm1 hpos hE k1 k2 k3 k4 k5 k6 hll hle hmm hsl hso1 hso2 hq
    go_enter Try.func9, Try.ntmps9
    go_wp2_with fail
    refine hal.mono ?_
    rintro e w1 ⟨rfl, bz⟩
    replace B := below_both B bz
    clear bz hal
    go_wp2_with fail
    refine (HM.out _ B).mono ?_
    rintro e w2 ⟨u, rfl, hu, bz⟩
    replace B := below_both B bz
    clear bz
    obtain ⟨au, cu, rfl⟩ := hu.slice
    obtain ⟨nu, hnu⟩ : ∃ q, q = (if E = 0 then Y2 else []).length := ⟨_, rfl⟩
    rw [← hnu] at hu ⊢
    have HNU := Lib.hid hnu
    clear hnu
    go_wp2_with fail
    refine (HTP.out _ B).mono ?_
    rintro e w3 ⟨v, rfl, hv, bz⟩
    replace B := below_both B bz
    replace hu := hu.behind bz
    clear bz
    go_wp2_with fail
    refine (HF.out _ B).mono ?_
    rintro e w4 ⟨R1, C1, b1, n1, c1, rfl, hN1, hr1, bz⟩
    obtain ⟨rfl, rfl⟩ := hr1.1 trivial
    obtain ⟨_, _, hn, _⟩ := hN1.slice
    simp only [Value.slice.injEq] at hn
    obtain rfl : n1 = q := by rw [hn.2.1]; exact HSL.out.2
    obtain ⟨j, G1⟩ := mbox w4 #[.int .i64 (r : Int), .int .i64 (c : Int), .slice b1 n1 c1] 24 _ rfl
    replace bz := below_both bz j
    replace B := below_both B bz
    replace hu := hu.behind bz
    replace hv := hv.behind bz
    have hL := hN1.arg.behind j
    have c0 := G1.cell (i := 0) rfl
    have c1' := G1.cell (i := 1) rfl
    have c2' := G1.cell (i := 2) rfl
    clear bz j hr1 hN1 hn
    go_wp2_with fail
    generalize w4.alloc (.cells #[.int .i64 (r : Int), .int .i64 (c : Int), .slice b1 n1 c1] 24) = w5 at *
    generalize w4.heap.size = g1 at *
    refine (HTN.out _ _ _ hL).mono ?_
    rintro e w6 ⟨b2, c2, rfl, hN2, bz⟩
    obtain ⟨j, G2⟩ := mbox w6 #[.int .i64 (c : Int), .int .i64 (r : Int), .slice b2 n1 c2] 24 _ rfl
    replace bz := below_both bz j
    replace B := below_both B bz
    replace hu := hu.behind bz
    replace hv := hv.behind bz
    replace hL := hL.behind bz
    replace G1 := G1.behind bz
    have hN2 := hN2.arg.behind j
    have d0 := G2.cell (i := 0) rfl
    have d1 := G2.cell (i := 1) rfl
    have d2 := G2.cell (i := 2) rfl
    clear bz j c0 c1' c2'
    go_wp2_with fail
    generalize w6.alloc (.cells #[.int .i64 (c : Int), .int .i64 (r : Int), .slice b2 n1 c2] 24) = w7 at *
    refine (HT1.out _ _ _ hN2).mono ?_
    rintro e w8 ⟨v4, rfl, hv4, bz⟩
    replace B := below_both B bz
    replace hu := hu.behind bz
    replace hv := hv.behind bz
    replace hL := hL.behind bz
    replace G1 := G1.behind bz
    clear bz d0 d1 d2 G2 hN2
    have hsm := mw_same hv hv4 (by have := HU.out; omega)
    go_wp2_with fail
    refine hsm.mono ?_
    rintro e w9 ⟨rfl, bz⟩
    replace B := below_both B bz
    replace hu := hu.behind bz
    replace hL := hL.behind bz
    replace G1 := G1.behind bz
    have c0 := G1.cell (i := 0) rfl
    have c1' := G1.cell (i := 1) rfl
    have c2' := G1.cell (i := 2) rfl
    clear bz hsm hv hv4
    go_wp2_with fail
    refine (HS.out _ _ _ hL).mono ?_
    rintro e w10 ⟨R3, C3, b3, n3, c3, rfl, hN3, hr3, bz⟩
    obtain ⟨j, G3⟩ := mbox w10 #[.int .i64 R3, .int .i64 C3, .slice b3 n3 c3] 24 _ rfl
    replace bz := below_both bz j
    replace B := below_both B bz
    replace hu := hu.behind bz
    have hQ := hN3.arg.behind j
    have HR3 := Lib.hid hr3
    clear bz j hr3 hN3 hL G1 c0 c1' c2'
    by_cases hE : E = 0
    · subst hE
      obtain ⟨rfl, rfl⟩ := HR3.out rfl
      simp only [if_true] at hQ hu
      obtain ⟨_, _, hn⟩ := hQ.slice
      simp only [Value.slice.injEq] at hn
      obtain rfl : n3 = n1 := by rw [hn.2.1]; exact HSL.out.1
      have hto := HT2.out _ _ _ hQ
      have e0 := G3.cell (i := 0) rfl
      have e1 := G3.cell (i := 1) rfl
      have e2 := G3.cell (i := 2) rfl
      clear hQ hn HR3
      go_wp2_with fail
      generalize w10.alloc (.cells #[.int .i64 (r : Int), .int .i64 (c : Int), .slice b3 n3 c3] 24) = w11 at *
      refine hto.mono ?_
      rintro e w12 ⟨v5, rfl, hv5, bz⟩
      replace B := below_both B bz
      replace hu := hu.behind bz
      have hsm := mw_same hu hv5 (by have := HV.out; omega)
      clear bz hto e0 e1 e2 G3
      go_wp2_with fail
      refine hsm.mono ?_
      rintro e w13 ⟨rfl, bz⟩
      replace B := below_both B bz
      go_wp2
      go_ret
      exact ⟨rfl, B⟩
    · have q3 : (E != 0) = true := bne_iff_ne.2 hE
      obtain rfl : nu = 0 := by rw [HNU.out, if_neg hE]; rfl
      clear hE hu hQ
      go_wp2
      go_ret
      exact ⟨rfl, B⟩
  · have hmp : mpE R C t m xs x = frE R C t m := by unfold mpE; rw [if_pos hE]
    rw [hmp] at HM
    obtain ⟨Y1, hY1⟩ : ∃ Y, Y = if frE R C t m = 0 then toL R C t (scalV x (frL R C t xs)) else [] := ⟨_, rfl⟩
    obtain ⟨Y2, hY2⟩ : ∃ Y, Y = if frE R C t m = 0 then toL C R t (trl R.toNat C.toNat (frL R C t xs)) else [] := ⟨_, rfl⟩
    obtain ⟨Y3, hY3⟩ : ∃ Y, Y = if frE R C t m = 0 then frL R C t xs else [] := ⟨_, rfl⟩
    rw [← hY1] at HM
    rw [← hY2] at HTP
    rw [← hY3] at HF
    rw [if_neg hE] at hY1 hY2
    subst hY1
    subst hY2
    have q3 : (frE R C t m != 0) = true := bne_iff_ne.2 hE
    clear hA lx hx h1 h2 hm1 hpos hmp hE hY3
    generalize frE R C t m = E at *
    go_enter Try.func9, Try.ntmps9
    go_wp2_with fail
    refine hal.mono ?_
    rintro e w1 ⟨rfl, bz⟩
    replace B := below_both B bz
    clear bz hal
    go_wp2_with fail
    refine (HM.out _ B).mono ?_
    rintro e w2 ⟨u, rfl, hu, bz⟩
    replace B := below_both B bz
    obtain ⟨au, cu, rfl⟩ := hu.slice
    clear bz HM
    go_wp2_with fail
    refine (HTP.out _ B).mono ?_
    rintro e w3 ⟨v, rfl, hv, bz⟩
    replace B := below_both B bz
    obtain ⟨av, cv, rfl⟩ := hv.slice
    clear bz HTP
    go_wp2_with fail
    refine (HF.out _ B).mono ?_
    rintro e w4 ⟨R1, C1, b1, n1, c1, rfl, hN1, hr1, bz⟩
    have j := bel_new w4 (.cells #[.int .i64 R1, .int .i64 C1, .slice b1 n1 c1] 24)
    replace B := below_both (below_both B bz) j
    clear bz HF hN1 hr1 j hu hv
    simp only
    go_wp2
    go_ret
    exact ⟨rfl, B⟩
end Go.Proofs.Ytjapilpjahhimaa

/- The law MwinoTiles, walked. -/
namespace Go.Proofs.Ytjapilpjahhimaa
open Go.RowKit Go.Shelf
theorem layW_low {R C t : Nat} {xs : List Nat} (h : Low 18446744073709551616 xs) : Low 18446744073709551616 (layW R C t xs) := by
  unfold layW
  generalize R * C = k
  induction k with
  | zero => exact low_rep0 _
  | succ k ih => exact low_set ih (lim_lt h (by decide) k)
theorem toE_may {R C t : Int} {m : Nat} (h1 : 1 ≤ t) (h8 : t ≤ 8) : toE R C m t = if mayM R C m = true then 0 else 11 := by
  unfold toE
  by_cases h : mayM R C m = true
  · have q := mayM_iff.1 h
    rw [if_pos ⟨h, sideOK_iff.2 ⟨by omega, by omega, by omega, by omega, h1, h8⟩⟩, if_pos h]
  · rw [if_neg (fun k => h k.1), if_neg h]
/-- there and back, whatever the tile -/
theorem fr_to {R C t : Int} {xs : List Nat} (h1 : 1 ≤ t) (h8 : t ≤ 8) (h : mayM R C xs.length = true) : frE R C t (toL R C t xs).length = 0 ∧ frL R C t (toL R C t xs) = xs := by
  obtain ⟨p1, p2, p3, p4, p5⟩ := mayM_iff.1 h
  obtain ⟨r, rfl⟩ : ∃ r : Nat, R = r := ⟨R.toNat, by omega⟩
  obtain ⟨c, rfl⟩ : ∃ r : Nat, C = r := ⟨C.toNat, by omega⟩
  obtain ⟨s, rfl⟩ : ∃ r : Nat, t = r := ⟨t.toNat, by omega⟩
  have hl : xs.length = r * c := by rw [← Int.natCast_mul] at p5; omega
  constructor
  · unfold frE
    rw [if_neg (by rw [sideOK_iff.2 ⟨p1, p2, p3, p4, h1, h8⟩]; decide), if_neg (by unfold toL; rw [layW_length]; simp)]
  · unfold frL toL
    simp only [Int.toNat_natCast]
    exact layW_back (by omega) (by omega) (by omega) hl
/-- Mul of two layouts -/
theorem mw_of {R C C2 t cut : Int} {xs ys : List Nat} (h1 : 1 ≤ t) (h8 : t ≤ 8) (ha : mayM R C xs.length = true) (hb : mayM C C2 ys.length = true) : mwE R C C2 t cut (toL R C t xs).length (toL C C2 t ys).length (toL R C t xs) (toL C C2 t ys) = prE R C C C2 (R.toNat * C.toNat) (C.toNat * C2.toNat) xs ys cut ∧ mwL R C C2 t cut (toL R C t xs) (toL C C2 t ys) = prL R C C2 xs ys cut := by
  obtain ⟨e1, e2⟩ := fr_to h1 h8 ha
  obtain ⟨f1, f2⟩ := fr_to h1 h8 hb
  constructor
  · rw [mwE_last e1 f1, e2, f2]
  · unfold mwL
    rw [e2, f2]
theorem mw_tile {z : Nat} (_ : z < 256) : ∃ s : Nat, (z : Int) % 8 = (s : Int) ∧ s < 8 := ⟨z % 8, by omega, by omega⟩
set_option maxRecDepth 100000 in
set_option maxHeartbeats 16000000 in
theorem mwinoTiles_calls {R C R2 C2 cut : Int} {a b : Option Addr} {m1 m2 cap1 cap2 x1 x2 : Nat} {xs ys : List Nat} {w : World} (hA : Arg w (.slice a m1 cap1) xs) (hB : Arg w (.slice b m2 cap2) ys) (lx : Low 18446744073709551616 xs) (ly : Low 18446744073709551616 ys) (hx1 : x1 < 256) (hx2 : x2 < 256) :
    Calls Try.prog 10 #[.agg #[.int .i64 R, .int .i64 C, .slice a m1 cap1], .agg #[.int .i64 R2, .int .i64 C2, .slice b m2 cap2], .int .u8 (x1 : Int), .int .u8 (x2 : Int), .int .i64 cut] w fun e W' => e = .returned (.bool true) ∧ Below w.heap.size w W' := by
  have hpos : 0 < w.heap.size := by obtain ⟨S, hS, _⟩ := hA; omega
  have hal := fun W h => l28_alive W h
  obtain ⟨s0, hs0, hs8⟩ := mw_tile hx1
  obtain ⟨t0, ht0, ht8⟩ := mw_tile hx2
  obtain ⟨s, hs⟩ : ∃ s : Int, s = 1 + (s0 : Int) := ⟨_, rfl⟩
  obtain ⟨t, ht⟩ : ∃ s : Int, s = 1 + (t0 : Int) := ⟨_, rfl⟩
  have hws : IntKind.i64.wrap (1 + (s0 : Int)) = s := by rw [hs]; exact IntWalk.i64_in _ (by omega)
  have hwt : IntKind.i64.wrap (1 + (t0 : Int)) = t := by rw [ht]; exact IntWalk.i64_in _ (by omega)
  have s1 : 1 ≤ s := by omega
  have s8 : s ≤ 8 := by omega
  have t1 : 1 ≤ t := by omega
  have t8 : t ≤ 8 := by omega
  have hml : m1 = xs.length := by
    obtain ⟨a', c', e⟩ := hA.slice
    simp only [Value.slice.injEq] at e
    omega
  have hnl : m2 = ys.length := by
    obtain ⟨a', c', e⟩ := hB.slice
    simp only [Value.slice.injEq] at e
    omega
  have HTO : Hid (∀ W, Below w.heap.size w W → ∀ t : Int, 1 ≤ t → t ≤ 8 → (Calls Try.prog 33 #[.agg #[.int .i64 R, .int .i64 C, .slice a m1 cap1], .int .i64 t] W fun e W' => ∃ v, e = .returned (.tuple #[v, .int .i64 (if mayM R C m1 = true then 0 else 11)]) ∧ Arg W' v (if mayM R C m1 = true then toL R C t xs else []) ∧ Below W.heap.size W W') ∧ (Calls Try.prog 33 #[.agg #[.int .i64 R2, .int .i64 C2, .slice b m2 cap2], .int .i64 t] W fun e W' => ∃ v, e = .returned (.tuple #[v, .int .i64 (if mayM R2 C2 m2 = true then 0 else 11)]) ∧ Arg W' v (if mayM R2 C2 m2 = true then toL R2 C2 t ys else []) ∧ Below W.heap.size W W')) := Lib.hid (fun W h t h1 h8 => by
    have g1 := mo_toA (R := R) (C := C) (t := t) (w := W) (hA.behind h) (by omega) (by omega)
    have g2 := mo_toA (R := R2) (C := C2) (t := t) (w := W) (hB.behind h) (by omega) (by omega)
    rw [toE_may h1 h8] at g1 g2
    constructor
    · refine g1.mono ?_
      rintro e W' ⟨v, rfl, hv, hb⟩
      refine ⟨v, rfl, ?_, hb⟩
      by_cases hm : mayM R C m1 = true
      · rw [if_pos hm] at hv ⊢; exact hv
      · rw [if_neg hm] at hv ⊢; exact hv
    · refine g2.mono ?_
      rintro e W' ⟨v, rfl, hv, hb⟩
      refine ⟨v, rfl, ?_, hb⟩
      by_cases hm : mayM R2 C2 m2 = true
      · rw [if_pos hm] at hv ⊢; exact hv
      · rw [if_neg hm] at hv ⊢; exact hv)
  obtain ⟨B, G1, G2, hw0⟩ := vboxm w #[.int .i64 R, .int .i64 C, .slice a m1 cap1] #[.int .i64 R2, .int .i64 C2, .slice b m2 cap2] 24 24 _ rfl
  have c0 := G1.cell (i := 0) rfl
  have c1 := G1.cell (i := 1) rfl
  have c2 := G1.cell (i := 2) rfl
  have d0 := G2.cell (i := 0) rfl
  have d1 := G2.cell (i := 1) rfl
  have d2 := G2.cell (i := 2) rfl
  by_cases hM1 : mayM R C m1 = true
  · by_cases hM2 : mayM R2 C2 m2 = true
    · simp only [if_pos hM1, if_pos hM2] at HTO
      by_cases hC : C = R2
      · subst hC
        have HMU : Hid (∀ t : Int, 1 ≤ t → t ≤ 8 → ∀ W v1 v2, Arg W v1 (toL R C t xs) → Arg W v2 (toL C C2 t ys) → Calls Try.prog 31 #[v1, v2, .int .i64 R, .int .i64 C, .int .i64 C2, .int .i64 t, .int .i64 cut] W fun e W' => ∃ v, e = .returned (.tuple #[v, .int .i64 (prE R C C C2 (R.toNat * C.toNat) (C.toNat * C2.toNat) xs ys cut)]) ∧ Arg W' v (if prE R C C C2 (R.toNat * C.toNat) (C.toNat * C2.toNat) xs ys cut = 0 then toL R C2 t (prL R C C2 xs ys cut) else []) ∧ Below W.heap.size W W') := Lib.hid (fun t h1 h8 W v1 v2 g1 g2 => by
          obtain ⟨a', c', rfl⟩ := g1.slice
          obtain ⟨a'', c'', rfl⟩ := g2.slice
          obtain ⟨q1, q2⟩ := mw_of (cut := cut) h1 h8 (by rw [← hml]; exact hM1) (by rw [← hnl]; exact hM2)
          have g := mw_mul (m := R) (k := C) (n := C2) (t := t) (cut := cut) g1 g2 (layW_low lx) (layW_low ly) (by omega) (by omega)
          rw [q2] at g
          refine g.mono ?_
          rintro e W' ⟨v, rfl, hv, hb⟩
          rw [q1] at hv ⊢
          refine ⟨v, rfl, ?_, hb⟩
          by_cases hz : prE R C C C2 (R.toNat * C.toNat) (C.toNat * C2.toNat) xs ys cut = 0
          · rw [if_pos hz] at hv ⊢; exact hv
          · rw [if_neg hz] at hv ⊢; exact hv)
        have hmo : mayM R C2 (prL R C C2 xs ys cut).length = true := by
          obtain ⟨p1, p2, p3, p4, p5⟩ := mayM_iff.1 hM1
          obtain ⟨q1, q2, q3, q4, q5⟩ := mayM_iff.1 hM2
          exact mayM_iff.2 ⟨p1, p2, q3, q4, by rw [prL_length, Int.natCast_mul, Int.toNat_of_nonneg (by omega), Int.toNat_of_nonneg (by omega)]⟩
        have HPL : Hid ((prL R C C2 xs ys cut).length ≤ 17592186044416) := Lib.hid (by
          obtain ⟨p1, p2, p3, p4, p5⟩ := mayM_iff.1 hM1
          obtain ⟨q1, q2, q3, q4, q5⟩ := mayM_iff.1 hM2
          rw [prL_length]
          have : R.toNat * C2.toNat ≤ 64 * 64 := Nat.mul_le_mul (by omega) (by omega)
          omega)
        have HFR : Hid (∀ t : Int, 1 ≤ t → t ≤ 8 → ∀ W v, Arg W v (toL R C2 t (prL R C C2 xs ys cut)) → Calls Try.prog 32 #[v, .int .i64 R, .int .i64 C2, .int .i64 t] W fun e W' => ∃ b n c, e = .returned (.tuple #[.agg #[.int .i64 R, .int .i64 C2, .slice b n c], .int .i64 0]) ∧ Arg W' (.slice b n c) (prL R C C2 xs ys cut) ∧ Below W.heap.size W W') := Lib.hid (fun t h1 h8 W v g1 => by
          obtain ⟨a', c', rfl⟩ := g1.slice
          obtain ⟨q1, q2⟩ := fr_to h1 h8 hmo
          have g := mo_fromA (R := R) (C := C2) (t := t) g1 (by omega) (by omega)
          rw [q1, q2] at g
          refine g.mono ?_
          rintro e W' ⟨R3, C3, b, n, c, rfl, hN, ⟨hr, -⟩, hb⟩
          obtain ⟨rfl, rfl⟩ := hr rfl
          exact ⟨b, n, c, rfl, hN.arg, hb⟩)
        generalize prL R C C2 xs ys cut = ML at *
        obtain ⟨E, hE⟩ : ∃ E, E = prE R C C C2 (R.toNat * C.toNat) (C.toNat * C2.toNat) xs ys cut := ⟨_, rfl⟩
        rw [← hE] at HMU
        have HS := Lib.hid (And.intro s1 s8)
        have HT := Lib.hid (And.intro t1 t8)
        clear hA hB lx ly hs8 ht8 hs ht s1 s8 t1 t8 hml hnl hw0 hM1 hM2 hmo hE
        go_enter Try.func10, Try.ntmps10
        go_wp2_with fail
        generalize (w.alloc (.cells #[.int .i64 R, .int .i64 C, .slice a m1 cap1] 24)).alloc (.cells #[.int .i64 C, .int .i64 C2, .slice b m2 cap2] 24) = W0 at *
        refine (hal _ (Nat.lt_of_lt_of_le hpos B.size)).mono ?_
        rintro e w1 ⟨rfl, bz⟩
        replace B := below_both B bz
        replace G1 := G1.behind bz
        replace G2 := G2.behind bz
        clear bz c0 c1 c2 d0 d1 d2
        have c0 := G1.cell (i := 0) rfl
        have c1 := G1.cell (i := 1) rfl
        have c2 := G1.cell (i := 2) rfl
        have d0 := G2.cell (i := 0) rfl
        have d1 := G2.cell (i := 1) rfl
        have d2 := G2.cell (i := 2) rfl
        go_wp2_with fail
        refine (HTO.out _ B s HS.out.1 HS.out.2).1.mono ?_
        rintro e w2 ⟨p, rfl, hp, bz⟩
        replace B := below_both B bz
        replace G1 := G1.behind bz
        replace G2 := G2.behind bz
        clear bz c0 c1 c2 d0 d1 d2
        have c0 := G1.cell (i := 0) rfl
        have c1 := G1.cell (i := 1) rfl
        have c2 := G1.cell (i := 2) rfl
        have d0 := G2.cell (i := 0) rfl
        have d1 := G2.cell (i := 1) rfl
        have d2 := G2.cell (i := 2) rfl
        go_wp2_with fail
        refine (HTO.out _ B s HS.out.1 HS.out.2).2.mono ?_
        rintro e w3 ⟨q, rfl, hq, bz⟩
        replace hp := hp.behind bz
        replace B := below_both B bz
        replace G1 := G1.behind bz
        replace G2 := G2.behind bz
        clear bz c0 c1 c2 d0 d1 d2
        have c0 := G1.cell (i := 0) rfl
        have c1 := G1.cell (i := 1) rfl
        have c2 := G1.cell (i := 2) rfl
        have d0 := G2.cell (i := 0) rfl
        have d1 := G2.cell (i := 1) rfl
        have d2 := G2.cell (i := 2) rfl
        go_wp2_with fail
        refine (HTO.out _ B t HT.out.1 HT.out.2).1.mono ?_
        rintro e w4 ⟨p', rfl, hp', bz⟩
        replace hp := hp.behind bz
        replace hq := hq.behind bz
        replace B := below_both B bz
        replace G1 := G1.behind bz
        replace G2 := G2.behind bz
        clear bz c0 c1 c2 d0 d1 d2
        have c0 := G1.cell (i := 0) rfl
        have c1 := G1.cell (i := 1) rfl
        have c2 := G1.cell (i := 2) rfl
        have d0 := G2.cell (i := 0) rfl
        have d1 := G2.cell (i := 1) rfl
        have d2 := G2.cell (i := 2) rfl
        go_wp2_with fail
        refine (HTO.out _ B t HT.out.1 HT.out.2).2.mono ?_
        rintro e w5 ⟨q', rfl, hq', bz⟩
        replace hp := hp.behind bz
        replace hq := hq.behind bz
        replace hp' := hp'.behind bz
        replace B := below_both B bz
        replace G1 := G1.behind bz
        replace G2 := G2.behind bz
        clear bz c0 c1 c2 d0 d1 d2
        have c0 := G1.cell (i := 0) rfl
        have c1 := G1.cell (i := 1) rfl
        have c2 := G1.cell (i := 2) rfl
        have d0 := G2.cell (i := 0) rfl
        have d1 := G2.cell (i := 1) rfl
        have d2 := G2.cell (i := 2) rfl
        have hCC : (C != C) = false := by simp
        go_wp2_with fail
        refine (HMU.out s HS.out.1 HS.out.2 _ _ _ hp hq).mono ?_
        rintro e w6 ⟨x, rfl, hx, bz⟩
        replace hp' := hp'.behind bz
        replace hq' := hq'.behind bz
        replace B := below_both B bz
        replace G1 := G1.behind bz
        replace G2 := G2.behind bz
        clear bz c0 c1 c2 d0 d1 d2
        have c0 := G1.cell (i := 0) rfl
        have c1 := G1.cell (i := 1) rfl
        have c2 := G1.cell (i := 2) rfl
        have d0 := G2.cell (i := 0) rfl
        have d1 := G2.cell (i := 1) rfl
        have d2 := G2.cell (i := 2) rfl
        go_wp2_with fail
        refine (HMU.out t HT.out.1 HT.out.2 _ _ _ hp' hq').mono ?_
        rintro e w7 ⟨y, rfl, hy, bz⟩
        replace hx := hx.behind bz
        replace B := below_both B bz
        replace G1 := G1.behind bz
        replace G2 := G2.behind bz
        clear bz c0 c1 c2 d0 d1 d2
        have c0 := G1.cell (i := 0) rfl
        have c1 := G1.cell (i := 1) rfl
        have c2 := G1.cell (i := 2) rfl
        have d0 := G2.cell (i := 0) rfl
        have d1 := G2.cell (i := 1) rfl
        have d2 := G2.cell (i := 2) rfl
        by_cases hE : E = 0
        · subst hE
          simp only [if_true] at hx hy
          clear hp hq hp' hq'
          go_wp2_with fail
          refine (HFR.out s HS.out.1 HS.out.2 _ _ hx).mono ?_
          rintro e w8 ⟨b8, n8, c8, rfl, h8, bz⟩
          obtain ⟨j, G8⟩ := mbox w8 #[.int .i64 R, .int .i64 C2, .slice b8 n8 c8] 24 _ rfl
          replace bz := below_both bz j
          replace hy := hy.behind bz
          replace h8 := h8.behind j
          clear j
          replace B := below_both B bz
          replace G1 := G1.behind bz
          replace G2 := G2.behind bz
          clear bz c0 c1 c2 d0 d1 d2
          have c0 := G1.cell (i := 0) rfl
          have c1 := G1.cell (i := 1) rfl
          have c2 := G1.cell (i := 2) rfl
          have d0 := G2.cell (i := 0) rfl
          have d1 := G2.cell (i := 1) rfl
          have d2 := G2.cell (i := 2) rfl
          go_wp2_with fail
          generalize w8.alloc (.cells #[.int .i64 R, .int .i64 C2, .slice b8 n8 c8] 24) = w9 at *
          refine (HFR.out t HT.out.1 HT.out.2 _ _ hy).mono ?_
          rintro e w10 ⟨b9, n9, c9, rfl, h9, bz⟩
          obtain ⟨j, G9⟩ := mbox w10 #[.int .i64 R, .int .i64 C2, .slice b9 n9 c9] 24 _ rfl
          replace bz := below_both bz j
          replace h8 := h8.behind bz
          replace G8 := G8.behind bz
          replace h9 := h9.behind j
          replace B := below_both B bz
          have HSA := Lib.hid (shape_same (R := R) (C := C2) (R' := R) (C' := C2) h8 h9 HPL.out HPL.out)
          rw [show sameM R C2 R C2 ML ML = true by unfold sameM; simp] at HSA
          have e0 := G8.cell (i := 0) rfl
          have e1 := G8.cell (i := 1) rfl
          have e2 := G8.cell (i := 2) rfl
          have f0 := G9.cell (i := 0) rfl
          have f1 := G9.cell (i := 1) rfl
          have f2 := G9.cell (i := 2) rfl
          clear bz j h8 h9 hx hy G1 G2 c0 c1 c2 d0 d1 d2
          go_wp2_with fail
          refine HSA.out.mono ?_
          rintro e w11 ⟨rfl, bz⟩
          replace B := below_both B bz
          go_wp2
          go_ret
          exact ⟨rfl, B⟩
        · have q3 : (E != 0) = true := bne_iff_ne.2 hE
          clear hE hx hy
          go_wp2
          go_ret
          exact ⟨rfl, B⟩
      · have hCC : (C != R2) = true := bne_iff_ne.2 hC
        have HS := Lib.hid (And.intro s1 s8)
        have HT := Lib.hid (And.intro t1 t8)
        clear hA hB lx ly hs8 ht8 hs ht s1 s8 t1 t8 hml hnl hw0 hM1 hM2 hC
        go_enter Try.func10, Try.ntmps10
        go_wp2_with fail
        generalize (w.alloc (.cells #[.int .i64 R, .int .i64 C, .slice a m1 cap1] 24)).alloc (.cells #[.int .i64 R2, .int .i64 C2, .slice b m2 cap2] 24) = W0 at *
        refine (hal _ (Nat.lt_of_lt_of_le hpos B.size)).mono ?_
        rintro e w1 ⟨rfl, bz⟩
        replace B := below_both B bz
        replace G1 := G1.behind bz
        replace G2 := G2.behind bz
        clear bz c0 c1 c2 d0 d1 d2
        have c0 := G1.cell (i := 0) rfl
        have c1 := G1.cell (i := 1) rfl
        have c2 := G1.cell (i := 2) rfl
        have d0 := G2.cell (i := 0) rfl
        have d1 := G2.cell (i := 1) rfl
        have d2 := G2.cell (i := 2) rfl
        go_wp2_with fail
        refine (HTO.out _ B s HS.out.1 HS.out.2).1.mono ?_
        rintro e w2 ⟨v0, rfl, -, bz⟩
        replace B := below_both B bz
        replace G1 := G1.behind bz
        replace G2 := G2.behind bz
        clear bz c0 c1 c2 d0 d1 d2
        have c0 := G1.cell (i := 0) rfl
        have c1 := G1.cell (i := 1) rfl
        have c2 := G1.cell (i := 2) rfl
        have d0 := G2.cell (i := 0) rfl
        have d1 := G2.cell (i := 1) rfl
        have d2 := G2.cell (i := 2) rfl
        go_wp2_with fail
        refine (HTO.out _ B s HS.out.1 HS.out.2).2.mono ?_
        rintro e w3 ⟨v1, rfl, -, bz⟩
        replace B := below_both B bz
        replace G1 := G1.behind bz
        replace G2 := G2.behind bz
        clear bz c0 c1 c2 d0 d1 d2
        have c0 := G1.cell (i := 0) rfl
        have c1 := G1.cell (i := 1) rfl
        have c2 := G1.cell (i := 2) rfl
        have d0 := G2.cell (i := 0) rfl
        have d1 := G2.cell (i := 1) rfl
        have d2 := G2.cell (i := 2) rfl
        go_wp2_with fail
        refine (HTO.out _ B t HT.out.1 HT.out.2).1.mono ?_
        rintro e w4 ⟨v2, rfl, -, bz⟩
        replace B := below_both B bz
        replace G1 := G1.behind bz
        replace G2 := G2.behind bz
        clear bz c0 c1 c2 d0 d1 d2
        have c0 := G1.cell (i := 0) rfl
        have c1 := G1.cell (i := 1) rfl
        have c2 := G1.cell (i := 2) rfl
        have d0 := G2.cell (i := 0) rfl
        have d1 := G2.cell (i := 1) rfl
        have d2 := G2.cell (i := 2) rfl
        go_wp2_with fail
        refine (HTO.out _ B t HT.out.1 HT.out.2).2.mono ?_
        rintro e w5 ⟨v3, rfl, -, bz⟩
        replace B := below_both B bz
        replace G1 := G1.behind bz
        replace G2 := G2.behind bz
        clear bz c0 c1 c2 d0 d1 d2
        have c0 := G1.cell (i := 0) rfl
        have c1 := G1.cell (i := 1) rfl
        have c2 := G1.cell (i := 2) rfl
        have d0 := G2.cell (i := 0) rfl
        have d1 := G2.cell (i := 1) rfl
        have d2 := G2.cell (i := 2) rfl
        go_wp2
        go_ret
        exact ⟨rfl, B⟩
    · simp only [if_pos hM1, if_neg hM2] at HTO
      have HS := Lib.hid (And.intro s1 s8)
      have HT := Lib.hid (And.intro t1 t8)
      clear hA hB lx ly hs8 ht8 hs ht s1 s8 t1 t8 hml hnl hw0 hM1 hM2
      go_enter Try.func10, Try.ntmps10
      go_wp2_with fail
      generalize (w.alloc (.cells #[.int .i64 R, .int .i64 C, .slice a m1 cap1] 24)).alloc (.cells #[.int .i64 R2, .int .i64 C2, .slice b m2 cap2] 24) = W0 at *
      refine (hal _ (Nat.lt_of_lt_of_le hpos B.size)).mono ?_
      rintro e w1 ⟨rfl, bz⟩
      replace B := below_both B bz
      replace G1 := G1.behind bz
      replace G2 := G2.behind bz
      clear bz c0 c1 c2 d0 d1 d2
      have c0 := G1.cell (i := 0) rfl
      have c1 := G1.cell (i := 1) rfl
      have c2 := G1.cell (i := 2) rfl
      have d0 := G2.cell (i := 0) rfl
      have d1 := G2.cell (i := 1) rfl
      have d2 := G2.cell (i := 2) rfl
      go_wp2_with fail
      refine (HTO.out _ B s HS.out.1 HS.out.2).1.mono ?_
      rintro e w2 ⟨v0, rfl, -, bz⟩
      replace B := below_both B bz
      replace G1 := G1.behind bz
      replace G2 := G2.behind bz
      clear bz c0 c1 c2 d0 d1 d2
      have c0 := G1.cell (i := 0) rfl
      have c1 := G1.cell (i := 1) rfl
      have c2 := G1.cell (i := 2) rfl
      have d0 := G2.cell (i := 0) rfl
      have d1 := G2.cell (i := 1) rfl
      have d2 := G2.cell (i := 2) rfl
      go_wp2_with fail
      refine (HTO.out _ B s HS.out.1 HS.out.2).2.mono ?_
      rintro e w3 ⟨v1, rfl, -, bz⟩
      replace B := below_both B bz
      replace G1 := G1.behind bz
      replace G2 := G2.behind bz
      clear bz c0 c1 c2 d0 d1 d2
      have c0 := G1.cell (i := 0) rfl
      have c1 := G1.cell (i := 1) rfl
      have c2 := G1.cell (i := 2) rfl
      have d0 := G2.cell (i := 0) rfl
      have d1 := G2.cell (i := 1) rfl
      have d2 := G2.cell (i := 2) rfl
      go_wp2_with fail
      refine (HTO.out _ B t HT.out.1 HT.out.2).1.mono ?_
      rintro e w4 ⟨v2, rfl, -, bz⟩
      replace B := below_both B bz
      replace G1 := G1.behind bz
      replace G2 := G2.behind bz
      clear bz c0 c1 c2 d0 d1 d2
      have c0 := G1.cell (i := 0) rfl
      have c1 := G1.cell (i := 1) rfl
      have c2 := G1.cell (i := 2) rfl
      have d0 := G2.cell (i := 0) rfl
      have d1 := G2.cell (i := 1) rfl
      have d2 := G2.cell (i := 2) rfl
      go_wp2_with fail
      refine (HTO.out _ B t HT.out.1 HT.out.2).2.mono ?_
      rintro e w5 ⟨v3, rfl, -, bz⟩
      replace B := below_both B bz
      replace G1 := G1.behind bz
      replace G2 := G2.behind bz
      clear bz c0 c1 c2 d0 d1 d2
      have c0 := G1.cell (i := 0) rfl
      have c1 := G1.cell (i := 1) rfl
      have c2 := G1.cell (i := 2) rfl
      have d0 := G2.cell (i := 0) rfl
      have d1 := G2.cell (i := 1) rfl
      have d2 := G2.cell (i := 2) rfl
      go_wp2
      go_ret
      exact ⟨rfl, B⟩
  · simp only [if_neg hM1] at HTO
    have HS := Lib.hid (And.intro s1 s8)
    have HT := Lib.hid (And.intro t1 t8)
    obtain ⟨E2, hE2⟩ : ∃ E : Int, E = if mayM R2 C2 m2 = true then 0 else 11 := ⟨_, rfl⟩
    rw [← hE2] at HTO
    clear hA hB lx ly hs8 ht8 hs ht s1 s8 t1 t8 hml hnl hw0 hM1 hE2
    go_enter Try.func10, Try.ntmps10
    go_wp2_with fail
    generalize (w.alloc (.cells #[.int .i64 R, .int .i64 C, .slice a m1 cap1] 24)).alloc (.cells #[.int .i64 R2, .int .i64 C2, .slice b m2 cap2] 24) = W0 at *
    refine (hal _ (Nat.lt_of_lt_of_le hpos B.size)).mono ?_
    rintro e w1 ⟨rfl, bz⟩
    replace B := below_both B bz
    replace G1 := G1.behind bz
    replace G2 := G2.behind bz
    clear bz c0 c1 c2 d0 d1 d2
    have c0 := G1.cell (i := 0) rfl
    have c1 := G1.cell (i := 1) rfl
    have c2 := G1.cell (i := 2) rfl
    have d0 := G2.cell (i := 0) rfl
    have d1 := G2.cell (i := 1) rfl
    have d2 := G2.cell (i := 2) rfl
    go_wp2_with fail
    refine (HTO.out _ B s HS.out.1 HS.out.2).1.mono ?_
    rintro e w2 ⟨v0, rfl, -, bz⟩
    replace B := below_both B bz
    replace G1 := G1.behind bz
    replace G2 := G2.behind bz
    clear bz c0 c1 c2 d0 d1 d2
    have c0 := G1.cell (i := 0) rfl
    have c1 := G1.cell (i := 1) rfl
    have c2 := G1.cell (i := 2) rfl
    have d0 := G2.cell (i := 0) rfl
    have d1 := G2.cell (i := 1) rfl
    have d2 := G2.cell (i := 2) rfl
    go_wp2_with fail
    refine (HTO.out _ B s HS.out.1 HS.out.2).2.mono ?_
    rintro e w3 ⟨v1, rfl, -, bz⟩
    replace B := below_both B bz
    replace G1 := G1.behind bz
    replace G2 := G2.behind bz
    clear bz c0 c1 c2 d0 d1 d2
    have c0 := G1.cell (i := 0) rfl
    have c1 := G1.cell (i := 1) rfl
    have c2 := G1.cell (i := 2) rfl
    have d0 := G2.cell (i := 0) rfl
    have d1 := G2.cell (i := 1) rfl
    have d2 := G2.cell (i := 2) rfl
    go_wp2_with fail
    refine (HTO.out _ B t HT.out.1 HT.out.2).1.mono ?_
    rintro e w4 ⟨v2, rfl, -, bz⟩
    replace B := below_both B bz
    replace G1 := G1.behind bz
    replace G2 := G2.behind bz
    clear bz c0 c1 c2 d0 d1 d2
    have c0 := G1.cell (i := 0) rfl
    have c1 := G1.cell (i := 1) rfl
    have c2 := G1.cell (i := 2) rfl
    have d0 := G2.cell (i := 0) rfl
    have d1 := G2.cell (i := 1) rfl
    have d2 := G2.cell (i := 2) rfl
    go_wp2_with fail
    refine (HTO.out _ B t HT.out.1 HT.out.2).2.mono ?_
    rintro e w5 ⟨v3, rfl, -, bz⟩
    replace B := below_both B bz
    replace G1 := G1.behind bz
    replace G2 := G2.behind bz
    clear bz c0 c1 c2 d0 d1 d2
    have c0 := G1.cell (i := 0) rfl
    have c1 := G1.cell (i := 1) rfl
    have c2 := G1.cell (i := 2) rfl
    have d0 := G2.cell (i := 0) rfl
    have d1 := G2.cell (i := 1) rfl
    have d2 := G2.cell (i := 2) rfl
    go_wp2
    go_ret
    exact ⟨rfl, B⟩
end Go.Proofs.Ytjapilpjahhimaa

/- the row -/
namespace Go.Proofs.Ytjapilpjahhimaa.mwinoTells
open Go.ChangeShapes Go.WideShapes Go.ChangeAt Go.RowKit Go.Shelf

section
variable (os : Os)
theorem laid_met : laidMet Try.prog Rows.mwinoTellsRow.laid ((World.holding Try.prog os ⟨#[], #[], []⟩).forCall (fun _ _ => 0) ⟨#[], #[.slice none 0 0, .slice none 0 0, .int .i64 0, .int .i64 0, .int .i64 0, .int .i64 0, .int .i64 0], []⟩).memory :=
  laidMet_of_run' 8 (by kernel_rfl) (by kernel_rfl)
theorem reads {H : Type} (enc : TypeId × Value → H) : ∃ places, DataW.whole enc Try.prog ((World.holding Try.prog os ⟨#[], #[], []⟩).forCall (fun _ _ => 0) ⟨#[], #[.slice none 0 0, .slice none 0 0, .int .i64 0, .int .i64 0, .int .i64 0, .int .i64 0, .int .i64 0], []⟩).memory Try.f8.params.toList Rows.mwinoTellsSpec.vars false (#[.slice none 0 0, .slice none 0 0, .int .i64 0, .int .i64 0, .int .i64 0, .int .i64 0, .int .i64 0] : Array Value).toList 8 = some ([.nil, .nil, .lit (.int .i64 0), .lit (.int .i64 0), .lit (.int .i64 0), .lit (.int .i64 0), .lit (.int .i64 0)], [], places) :=
  ⟨[], by kernel_rfl⟩
end

set_option maxRecDepth 100000 in
theorem lifted (os : Os) (started : os.Started) (H : Type) (enc : TypeId × Value → H) (F : Stop.Interp) :
    ReturnsInHanded {} Try.checked os 8 .any ((OpenSpec.ofChange Rows.mwinoTellsSpec).preRow enc Try.prog Try.f8 Rows.mwinoTellsRow.domain false Rows.mwinoTellsRow.laid) (((OpenSpec.ofChange Rows.mwinoTellsSpec).at F).post enc Try.prog Try.f8 false true false false) := by
  obtain ⟨places, hx⟩ := reads os enc
  refine returnsInHanded_of_row (C := Try.checked) (s := OpenSpec.ofChange Rows.mwinoTellsSpec) own started (by kernel_rfl) Try.func8
    (witness_row_at (enc := enc) (C := Try.checked) false (World.holding Try.prog os ⟨#[], #[], []⟩) #[.slice none 0 0, .slice none 0 0, .int .i64 0, .int .i64 0, .int .i64 0, .int .i64 0, .int .i64 0] rfl (by kernel_rfl) (by kernel_rfl) (by kernel_rfl)
      (OpenSpec.preRow_of_cond 8 hx (by kernel_rfl) (fun k hk => by cases hk) (by kernel_rfl) (laid_met os))) ?_
  intro W base args ds gs before hval hW _ hcond hsz _ hsh _
  have hpos := heap_pos hsh
  have hW' := hW
  have hlt : ∀ x ∈ before, x.block < W.heap.size := fun x hx => hW.lt x hx
  obtain ⟨p, q, hA0, hV, rfl, hfz, hnd⟩ := hW
  have hA : DataW.TrodAll enc Try.prog W 0 (fun _ => true) true Try.f8.params.toList args.toList ds p := hA0
  have hA1 := hA
  rw [Try.params8] at hA hval
  obtain ⟨v0, vs0, d0, ds0, p0, q0, hargs, rfl, rfl, h0, r0⟩ := trodAll_cons hA
  obtain ⟨v1, vs1, d1, ds1, p1, q1, rfl, rfl, rfl, h1, r1⟩ := trodAll_cons r0
  obtain ⟨v2, vs2, d2, ds2, p2, q2, rfl, rfl, rfl, h2, r2⟩ := trodAll_cons r1
  obtain ⟨v3, vs3, d3, ds3, p3, q3, rfl, rfl, rfl, h3, r3⟩ := trodAll_cons r2
  obtain ⟨v4, vs4, d4, ds4, p4, q4, rfl, rfl, rfl, h4, r4⟩ := trodAll_cons r3
  obtain ⟨v5, vs5, d5, ds5, p5, q5, rfl, rfl, rfl, h5, r5⟩ := trodAll_cons r4
  obtain ⟨v6, vs6, d6, ds6, p6, q6, rfl, rfl, rfl, h6, r6⟩ := trodAll_cons r5
  obtain ⟨rfl, rfl, rfl⟩ := trodAll_nil r6
  obtain rfl : args = #[v0, v1, v2, v3, v4, v5, v6] := by cases args; simp_all
  obtain ⟨rfl, rfl⟩ := trodVars_none hV
  obtain ⟨x0, a0, l0, e0⟩ := open_arg hpos (hval 0 22 v0 rfl rfl) h0
  have n0 : x0.length ≤ 17592186043904 := by
    rcases e0 with h | ⟨elems, spare, rfl, h⟩
    · rw [h]; simp
    · have h2 : (elems.length + spare.length) * Try.prog.bytesOf 49 ≤ reachBytes := sized_slice (j := 0) hsz (t := 22) (e := 49) rfl rfl Try.underlying22
      rw [bytes_u64] at h2
      have h3 : reachBytes = 140737488351232 := rfl
      omega
  obtain ⟨x1, a1, l1, e1⟩ := open_arg hpos (hval 1 22 v1 rfl rfl) h1
  have n1 : x1.length ≤ 17592186043904 := by
    rcases e1 with h | ⟨elems, spare, rfl, h⟩
    · rw [h]; simp
    · have h2 : (elems.length + spare.length) * Try.prog.bytesOf 49 ≤ reachBytes := sized_slice (j := 1) hsz (t := 22) (e := 49) rfl rfl Try.underlying22
      rw [bytes_u64] at h2
      have h3 : reachBytes = 140737488351232 := rfl
      omega
  obtain ⟨z2, rfl, rfl, y2⟩ := open_i64 (hval 2 3 v2 rfl rfl) h2
  obtain ⟨z3, rfl, rfl, y3⟩ := open_i64 (hval 3 3 v3 rfl rfl) h3
  obtain ⟨z4, rfl, rfl, y4⟩ := open_i64 (hval 4 3 v4 rfl rfl) h4
  obtain ⟨z5, rfl, rfl, y5⟩ := open_i64 (hval 5 3 v5 rfl rfl) h5
  obtain ⟨z6, rfl, rfl, y6⟩ := open_i64 (hval 6 3 v6 rfl rfl) h6
  refine (mwinoTells_calls a0 a1 l0 l1 y5.1 (by omega)).mono ?_
  rintro e W' ⟨rfl, hb⟩
  simp only [List.append_nil] at hW' hlt
  exact ⟨_, rfl, _, [], _, [], _, [], hW', trodAll_cons_mk (shut_bool Try.underlying4 _) trodAll_mk0, all_keep hb (by rw [Try.params8]; intro t ht; simp only [List.mem_cons, List.not_mem_nil, or_false] at ht; rcases ht with rfl | rfl | rfl | rfl | rfl | rfl | rfl <;> first | exact ⟨readable_u64s, typed_u64s⟩ | exact ⟨readable_int, typed_int⟩) hA1 (by simpa using hlt), rfl,
    World.keptBut_mono (fun x hx => ⟨hx, .inr (.inl (by simpa using hx))⟩) (hb.frame _), fun h => by cases h⟩

/-- the statement of the row -/
theorem proved : Rows.MwinoTellsSaid :=
  OpenClaim.holds_of_cond 8 Try.f8 rfl rfl rfl rfl rfl rfl rfl ⟨rfl, rfl, rfl, rfl, rfl⟩ rfl rfl rfl rfl rfl (by kernel_rfl) Try.func8 (by kernel_rfl)
    (of_decide_eq_true (by kernel_rfl)) (by unfold Func.isWrapper; first | (rw [if_pos (by decide +kernel)]; kernel_rfl) | (rw [if_neg (by decide +kernel)]; exact ⟨rfl, rfl⟩))
    (fun os started H enc _ F => by rw [OpenClaim.pre_eq_preRow]; exact lifted os started H enc F)
#print axioms proved
end Go.Proofs.Ytjapilpjahhimaa.mwinoTells

/- the row -/
namespace Go.Proofs.Ytjapilpjahhimaa.mwinoPlain
open Go.ChangeShapes Go.WideShapes Go.ChangeAt Go.RowKit Go.Shelf

section
variable (os : Os)
theorem laid_met : laidMet Try.prog Rows.mwinoPlainRow.laid ((World.holding Try.prog os ⟨#[], #[], []⟩).forCall (fun _ _ => 0) ⟨#[], #[.slice none 0 0, .int .i64 0, .int .i64 0, .int .i64 0, .int .u64 0], []⟩).memory :=
  laidMet_of_run' 8 (by kernel_rfl) (by kernel_rfl)
theorem reads {H : Type} (enc : TypeId × Value → H) : ∃ places, DataW.whole enc Try.prog ((World.holding Try.prog os ⟨#[], #[], []⟩).forCall (fun _ _ => 0) ⟨#[], #[.slice none 0 0, .int .i64 0, .int .i64 0, .int .i64 0, .int .u64 0], []⟩).memory Try.f9.params.toList Rows.mwinoPlainSpec.vars false (#[.slice none 0 0, .int .i64 0, .int .i64 0, .int .i64 0, .int .u64 0] : Array Value).toList 8 = some ([.nil, .lit (.int .i64 0), .lit (.int .i64 0), .lit (.int .i64 0), .lit (.int .u64 0)], [], places) :=
  ⟨[], by kernel_rfl⟩
end

set_option maxRecDepth 100000 in
theorem lifted (os : Os) (started : os.Started) (H : Type) (enc : TypeId × Value → H) (F : Stop.Interp) :
    ReturnsInHanded {} Try.checked os 9 .any ((OpenSpec.ofChange Rows.mwinoPlainSpec).preRow enc Try.prog Try.f9 Rows.mwinoPlainRow.domain false Rows.mwinoPlainRow.laid) (((OpenSpec.ofChange Rows.mwinoPlainSpec).at F).post enc Try.prog Try.f9 false true false false) := by
  obtain ⟨places, hx⟩ := reads os enc
  refine returnsInHanded_of_row (C := Try.checked) (s := OpenSpec.ofChange Rows.mwinoPlainSpec) own started (by kernel_rfl) Try.func9
    (witness_row_at (enc := enc) (C := Try.checked) false (World.holding Try.prog os ⟨#[], #[], []⟩) #[.slice none 0 0, .int .i64 0, .int .i64 0, .int .i64 0, .int .u64 0] rfl (by kernel_rfl) (by kernel_rfl) (by kernel_rfl)
      (OpenSpec.preRow_of_cond 8 hx (by kernel_rfl) (fun k hk => by cases hk) (by kernel_rfl) (laid_met os))) ?_
  intro W base args ds gs before hval hW _ hcond hsz _ hsh _
  have hpos := heap_pos hsh
  have hW' := hW
  have hlt : ∀ x ∈ before, x.block < W.heap.size := fun x hx => hW.lt x hx
  obtain ⟨p, q, hA0, hV, rfl, hfz, hnd⟩ := hW
  have hA : DataW.TrodAll enc Try.prog W 0 (fun _ => true) true Try.f9.params.toList args.toList ds p := hA0
  have hA1 := hA
  rw [Try.params9] at hA hval
  obtain ⟨v0, vs0, d0, ds0, p0, q0, hargs, rfl, rfl, h0, r0⟩ := trodAll_cons hA
  obtain ⟨v1, vs1, d1, ds1, p1, q1, rfl, rfl, rfl, h1, r1⟩ := trodAll_cons r0
  obtain ⟨v2, vs2, d2, ds2, p2, q2, rfl, rfl, rfl, h2, r2⟩ := trodAll_cons r1
  obtain ⟨v3, vs3, d3, ds3, p3, q3, rfl, rfl, rfl, h3, r3⟩ := trodAll_cons r2
  obtain ⟨v4, vs4, d4, ds4, p4, q4, rfl, rfl, rfl, h4, r4⟩ := trodAll_cons r3
  obtain ⟨rfl, rfl, rfl⟩ := trodAll_nil r4
  obtain rfl : args = #[v0, v1, v2, v3, v4] := by cases args; simp_all
  obtain ⟨rfl, rfl⟩ := trodVars_none hV
  obtain ⟨x0, a0, l0, e0⟩ := open_arg hpos (hval 0 22 v0 rfl rfl) h0
  have n0 : x0.length ≤ 17592186043904 := by
    rcases e0 with h | ⟨elems, spare, rfl, h⟩
    · rw [h]; simp
    · have h2 : (elems.length + spare.length) * Try.prog.bytesOf 49 ≤ reachBytes := sized_slice (j := 0) hsz (t := 22) (e := 49) rfl rfl Try.underlying22
      rw [bytes_u64] at h2
      have h3 : reachBytes = 140737488351232 := rfl
      omega
  obtain ⟨z1, rfl, rfl, y1⟩ := open_i64 (hval 1 3 v1 rfl rfl) h1
  obtain ⟨z2, rfl, rfl, y2⟩ := open_i64 (hval 2 3 v2 rfl rfl) h2
  obtain ⟨z3, rfl, rfl, y3⟩ := open_i64 (hval 3 3 v3 rfl rfl) h3
  obtain ⟨a4, rfl, rfl, y4⟩ := open_w64 (hval 4 49 v4 rfl rfl) h4
  refine (mwinoPlain_calls a0 l0 (by omega) y3.1 (by omega)).mono ?_
  rintro e W' ⟨rfl, hb⟩
  simp only [List.append_nil] at hW' hlt
  exact ⟨_, rfl, _, [], _, [], _, [], hW', trodAll_cons_mk (shut_bool Try.underlying4 _) trodAll_mk0, all_keep hb (by rw [Try.params9]; intro t ht; simp only [List.mem_cons, List.not_mem_nil, or_false] at ht; rcases ht with rfl | rfl | rfl | rfl | rfl <;> first | exact ⟨readable_u64s, typed_u64s⟩ | exact ⟨readable_int, typed_int⟩ | exact ⟨readable_w64, typed_w64⟩) hA1 (by simpa using hlt), rfl,
    World.keptBut_mono (fun x hx => ⟨hx, .inr (.inl (by simpa using hx))⟩) (hb.frame _), fun h => by cases h⟩

/-- the statement of the row -/
theorem proved : Rows.MwinoPlainSaid :=
  OpenClaim.holds_of_cond 9 Try.f9 rfl rfl rfl rfl rfl rfl rfl ⟨rfl, rfl, rfl, rfl, rfl⟩ rfl rfl rfl rfl rfl (by kernel_rfl) Try.func9 (by kernel_rfl)
    (of_decide_eq_true (by kernel_rfl)) (by unfold Func.isWrapper; first | (rw [if_pos (by decide +kernel)]; kernel_rfl) | (rw [if_neg (by decide +kernel)]; exact ⟨rfl, rfl⟩))
    (fun os started H enc _ F => by rw [OpenClaim.pre_eq_preRow]; exact lifted os started H enc F)
#print axioms proved
end Go.Proofs.Ytjapilpjahhimaa.mwinoPlain

/- the row -/
namespace Go.Proofs.Ytjapilpjahhimaa.mwinoTiles
open Go.ChangeShapes Go.WideShapes Go.ChangeAt Go.RowKit Go.Shelf

section
variable (os : Os)
theorem laid_met : laidMet Try.prog Rows.mwinoTilesRow.laid ((World.holding Try.prog os ⟨#[], #[], []⟩).forCall (fun _ _ => 0) ⟨#[], #[.agg #[.int .i64 0, .int .i64 0, .slice none 0 0], .agg #[.int .i64 0, .int .i64 0, .slice none 0 0], .int .u8 0, .int .u8 0, .int .i64 0], []⟩).memory :=
  laidMet_of_run' 8 (by kernel_rfl) (by kernel_rfl)
theorem reads {H : Type} (enc : TypeId × Value → H) : ∃ places, DataW.whole enc Try.prog ((World.holding Try.prog os ⟨#[], #[], []⟩).forCall (fun _ _ => 0) ⟨#[], #[.agg #[.int .i64 0, .int .i64 0, .slice none 0 0], .agg #[.int .i64 0, .int .i64 0, .slice none 0 0], .int .u8 0, .int .u8 0, .int .i64 0], []⟩).memory Try.f10.params.toList Rows.mwinoTilesSpec.vars false (#[.agg #[.int .i64 0, .int .i64 0, .slice none 0 0], .agg #[.int .i64 0, .int .i64 0, .slice none 0 0], .int .u8 0, .int .u8 0, .int .i64 0] : Array Value).toList 8 = some ([.agg [.lit (.int .i64 0), .lit (.int .i64 0), .nil], .agg [.lit (.int .i64 0), .lit (.int .i64 0), .nil], .lit (.int .u8 0), .lit (.int .u8 0), .lit (.int .i64 0)], [], places) :=
  ⟨[], by kernel_rfl⟩
end

set_option maxRecDepth 100000 in
theorem lifted (os : Os) (started : os.Started) (H : Type) (enc : TypeId × Value → H) (F : Stop.Interp) :
    ReturnsInHanded {} Try.checked os 10 .any ((OpenSpec.ofChange Rows.mwinoTilesSpec).preRow enc Try.prog Try.f10 Rows.mwinoTilesRow.domain false Rows.mwinoTilesRow.laid) (((OpenSpec.ofChange Rows.mwinoTilesSpec).at F).post enc Try.prog Try.f10 false true false false) := by
  obtain ⟨places, hx⟩ := reads os enc
  refine returnsInHanded_of_row (C := Try.checked) (s := OpenSpec.ofChange Rows.mwinoTilesSpec) own started (by kernel_rfl) Try.func10
    (witness_row_at (enc := enc) (C := Try.checked) false (World.holding Try.prog os ⟨#[], #[], []⟩) #[.agg #[.int .i64 0, .int .i64 0, .slice none 0 0], .agg #[.int .i64 0, .int .i64 0, .slice none 0 0], .int .u8 0, .int .u8 0, .int .i64 0] rfl (by kernel_rfl) (by kernel_rfl) (by kernel_rfl)
      (OpenSpec.preRow_of_cond 8 hx (by kernel_rfl) (fun k hk => by cases hk) (by kernel_rfl) (laid_met os))) ?_
  intro W base args ds gs before hval hW _ hcond hsz _ hsh _
  have hpos := heap_pos hsh
  have hW' := hW
  have hlt : ∀ x ∈ before, x.block < W.heap.size := fun x hx => hW.lt x hx
  obtain ⟨p, q, hA0, hV, rfl, hfz, hnd⟩ := hW
  have hA : DataW.TrodAll enc Try.prog W 0 (fun _ => true) true Try.f10.params.toList args.toList ds p := hA0
  have hA1 := hA
  rw [Try.params10] at hA hval
  obtain ⟨v0, vs0, d0, ds0, p0, q0, hargs, rfl, rfl, h0, r0⟩ := trodAll_cons hA
  obtain ⟨v1, vs1, d1, ds1, p1, q1, rfl, rfl, rfl, h1, r1⟩ := trodAll_cons r0
  obtain ⟨v2, vs2, d2, ds2, p2, q2, rfl, rfl, rfl, h2, r2⟩ := trodAll_cons r1
  obtain ⟨v3, vs3, d3, ds3, p3, q3, rfl, rfl, rfl, h3, r3⟩ := trodAll_cons r2
  obtain ⟨v4, vs4, d4, ds4, p4, q4, rfl, rfl, rfl, h4, r4⟩ := trodAll_cons r3
  obtain ⟨rfl, rfl, rfl⟩ := trodAll_nil r4
  obtain rfl : args = #[v0, v1, v2, v3, v4] := by cases args; simp_all
  obtain ⟨rfl, rfl⟩ := trodVars_none hV
  obtain ⟨R0, C0, b0, m0, c0, x0, rfl, a0, l0, y0, z0, e0⟩ := open_mat hpos (hval 0 24 v0 rfl rfl) h0
  have n0 : x0.length ≤ 17592186043904 := by
    rcases e0 with h | ⟨elems, spare, rfl, h⟩
    · rw [h]; simp
    · have h2 := sized_mat (j := 0) hsz rfl rfl
      omega
  obtain ⟨R1, C1, b1, m1, c1, x1, rfl, a1, l1, y1, z1, e1⟩ := open_mat hpos (hval 1 24 v1 rfl rfl) h1
  have n1 : x1.length ≤ 17592186043904 := by
    rcases e1 with h | ⟨elems, spare, rfl, h⟩
    · rw [h]; simp
    · have h2 := sized_mat (j := 1) hsz rfl rfl
      omega
  obtain ⟨a2, rfl, rfl, y2⟩ := open_w8 (hval 2 5 v2 rfl rfl) h2
  obtain ⟨a3, rfl, rfl, y3⟩ := open_w8 (hval 3 5 v3 rfl rfl) h3
  obtain ⟨z4, rfl, rfl, y4⟩ := open_i64 (hval 4 3 v4 rfl rfl) h4
  refine (mwinoTiles_calls a0 a1 l0 l1 (by omega) (by omega)).mono ?_
  rintro e W' ⟨rfl, hb⟩
  simp only [List.append_nil] at hW' hlt
  exact ⟨_, rfl, _, [], _, [], _, [], hW', trodAll_cons_mk (shut_bool Try.underlying4 _) trodAll_mk0, all_keep hb (by rw [Try.params10]; intro t ht; simp only [List.mem_cons, List.not_mem_nil, or_false] at ht; rcases ht with rfl | rfl | rfl | rfl | rfl <;> first | exact ⟨readable_mat, typed_mat⟩ | exact ⟨readable_w8, typed_w8⟩ | exact ⟨readable_int, typed_int⟩) hA1 (by simpa using hlt), rfl,
    World.keptBut_mono (fun x hx => ⟨hx, .inr (.inl (by simpa using hx))⟩) (hb.frame _), fun h => by cases h⟩

/-- the statement of the row -/
theorem proved : Rows.MwinoTilesSaid :=
  OpenClaim.holds_of_cond 10 Try.f10 rfl rfl rfl rfl rfl rfl rfl ⟨rfl, rfl, rfl, rfl, rfl⟩ rfl rfl rfl rfl rfl (by kernel_rfl) Try.func10 (by kernel_rfl)
    (of_decide_eq_true (by kernel_rfl)) (by unfold Func.isWrapper; first | (rw [if_pos (by decide +kernel)]; kernel_rfl) | (rw [if_neg (by decide +kernel)]; exact ⟨rfl, rfl⟩))
    (fun os started H enc _ F => by rw [OpenClaim.pre_eq_preRow]; exact lifted os started H enc F)
#print axioms proved
end Go.Proofs.Ytjapilpjahhimaa.mwinoTiles
