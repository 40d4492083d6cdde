/- natdiv.oddGcd: what divides two odd numbers, by halving, in their own memory. -/
import Derived.Test.YtppbifijgkcpjaaDoorOdd
namespace Go.Proofs.YtppbifijgkcpjaaDoor
open Go.RowKit Go.Shelf

theorem Own.numAt {w : World} {S A : Nat} {v : Value} (h : Own w S v A) : numAt w v = A := by
  rw [h.1.num, val_digs (by decide)]
theorem Own.off {w w' : World} {S T A : Nat} {v : Value} (h : Own w T v A) (ho : Off S w w') (hn : T ≠ S) : Own w' T v A := h.kept (ho.block T h.2.lt hn)
theorem Own.new {w : World} {n S A : Nat} {v : Value} (h : Own w S v A) (hn : n ≤ S) : New n w v (digs 18446744073709551616 A) := ⟨S, h.1, h.2.lt, .inr hn⟩
/-- two odd numbers in memory of their own -/
structure Two (n0 i G : Nat) (w0 w : World) (a b : Value) (Sa Sb A B : Nat) : Prop where
  fst : Own w Sa a A
  snd : Own w Sb b B
  ne : Sa ≠ Sb
  ha : n0 ≤ Sa
  hb : n0 ≤ Sb
  oa : A % 2 = 1
  ob : B % 2 = 1
  la : A < 18446744073709551616 ^ i
  lb : B < 18446744073709551616 ^ i
  gcd : Nat.gcd A B = G
  tab : TabOk w
  tn : (0 : Nat) < n0
  bel : Below n0 w0 w
  le : n0 ≤ w0.heap.size
theorem Two.swap {n0 i G : Nat} {w0 w : World} {a b : Value} {Sa Sb A B : Nat} (h : Two n0 i G w0 w a b Sa Sb A B) : Two n0 i G w0 w b a Sb Sa B A :=
  ⟨h.snd, h.fst, h.ne.symm, h.hb, h.ha, h.ob, h.oa, h.lb, h.la, by rw [Nat.gcd_comm]; exact h.gcd, h.tab, h.tn, h.bel, h.le⟩
theorem Two.behind {n0 i G : Nat} {w0 w w' : World} {a b : Value} {Sa Sb A B : Nat} (h : Two n0 i G w0 w a b Sa Sb A B) (k : Below w.heap.size w w') : Two n0 i G w0 w' a b Sa Sb A B :=
  ⟨h.fst.behind k, h.snd.behind k, h.ne, h.ha, h.hb, h.oa, h.ob, h.la, h.lb, h.gcd, h.tab.behind k, h.tn, h.bel.trans (k.mono (Nat.le_trans h.le h.bel.size)), h.le⟩
theorem Two.cmp {n0 i G : Nat} {w0 w : World} {a b : Value} {Sa Sb A B : Nat} (h : Two n0 i G w0 w a b Sa Sb A B) (hi : i ≤ 17592186044416) :
    Calls Tryd.prog 15 #[a, b] w fun e W' => e = .returned (.int .i64 (cmpN A B)) ∧ Two n0 i G w0 W' a b Sa Sb A B :=
  (cmp_num (h.fst.num h.la) (h.snd.num h.lb) hi hi).mono fun _ _ k => ⟨k.1, h.behind k.2⟩
/-- takeOff and odd, one after the other -/
theorem Two.take {n0 i G : Nat} {w0 w : World} {a b : Value} {Sa Sb A B : Nat} (h : Two n0 i G w0 w a b Sa Sb A B) (hi : i ≤ 17592186044416) (hlt : B < A) :
    Calls Tryd.prog 36 #[a, b] w fun e W' => (∃ v, e = .returned v) ∧
      Calls Tryd.prog 18 #[a] W' fun e W2 => ∃ a' A', e = .returned a' ∧ A' < A ∧ Two n0 i G w0 W2 a' b Sa Sb A' B := by
  obtain ⟨off, cap, rfl, hcap, hseg⟩ := h.fst.seg (by omega)
  have hdl := digs_length (B := 18446744073709551616) (by decide) h.la
  have hdl2 := digs_length (B := 18446744073709551616) (by decide) h.lb
  have hxl := digs_low (B := 18446744073709551616) (by decide) A
  have hyl := digs_low (B := 18446744073709551616) (by decide) B
  have hvA := val_digs (B := 18446744073709551616) (by decide) A
  have hvB := val_digs (B := 18446744073709551616) (by decide) B
  have hll := low_length_le (B := 18446744073709551616) (by decide) hxl (cutz_digs (B := 18446744073709551616) (by decide) B) (by rw [hvA, hvB]; omega)
  refine (callsIn_wide.1 (takeOff_in 6 (Nat.le_refl _) Sa off cap Sb b _ _ (by omega) (by omega) hcap hxl hyl w hseg h.snd.2.lt h.ne.symm h.snd.1)).mono ?_
  rintro e W1 ⟨hv, hs, ho⟩
  refine ⟨hv, ?_⟩
  obtain ⟨f1, f2, f3, f4, f5⟩ := tf_fine hxl hyl _ (Nat.le_refl (digs 18446744073709551616 A).length)
  have fv := tf_all hxl hyl hll (by rw [hvA, hvB]; omega)
  rw [hvA, hvB] at fv
  rw [← f1]
  have hT1 := h.tab.off ho (by have := h.tn; have := h.ha; omega)
  refine (odd_calls Sa off cap _ (by omega) (by omega) f3 (by rw [fv]; omega) W1 hT1 (by have := h.tn; have := h.ha; omega) hs).mono ?_
  rintro e W2 ⟨v, z, m, rfl, hval, hr, hwb, ho2⟩
  rw [fv] at hval
  have hle : 2 * m + 1 ≤ A - B := by
    rw [hval]
    exact Nat.le_mul_of_pos_left _ (Nat.pow_pos (by decide))
  have hB1 := h.ob
  refine ⟨v, 2 * m + 1, rfl, by omega, ⟨⟨hr, hwb⟩, (h.snd.off ho h.ne.symm).off ho2 h.ne.symm, h.ne, h.ha, h.hb, by omega, h.ob, by have := h.la; omega, h.lb, ?_, hT1.off ho2 (by have := h.tn; have := h.ha; omega), h.tn, ?_, h.le⟩⟩
  · rw [gcd_step hB1 (by omega) hval]
    exact h.gcd
  · have h1 := Nat.le_trans h.le h.bel.size
    exact (Off.to_below h.bel ho h.ha h1).trans (Off.to_below (Below.refl _ W1) ho2 h.ha (Nat.le_trans h1 ho.size))
set_option maxHeartbeats 1000000 in
theorem oddGcd_calls {n0 i G : Nat} {w : World} {va vb : Value} {Sa Sb A B : Nat} (h : Two n0 i G w w va vb Sa Sb A B) (hi : i ≤ 17592186044416) :
    Calls Tryd.prog 17 #[va, vb] w fun e W' => ∃ v S, e = .returned v ∧ n0 ≤ S ∧ Own W' S v G ∧ Below n0 w W' ∧ TabOk W' := by
  have HI := Lib.hid hi
  go_enter Tryd.func17, Tryd.ntmps17
  go_wp2_with fail
  refine (h.cmp hi).mono ?_
  rintro e w1 ⟨rfl, h1⟩
  clear h
  go_wp2_with fail
  go_loopw [0, 1, 5] (fun a b o wr => ∃ Sa Sb A B : Nat, Two n0 i G w wr a b Sa Sb A B ∧ o = .int .i64 (cmpN A B)) (fun a b _ wr => numAt wr a + numAt wr b)
  case atStart => exact ⟨_, _, _, _, h1, rfl⟩
  case round =>
    obtain ⟨Sa, Sb, A, B, h, rfl⟩ := hrel
    have hm := h.fst.numAt
    have hm2 := h.snd.numAt
    rcases Nat.lt_trichotomy A B with hlt | rfl | hlt
    · rw [cmpN_lt hlt]
      have HL := Lib.hid hlt
      clear hlt
      go_wp2_with fail
      refine (h.swap.take HI.out HL.out).mono ?_
      rintro e w2 ⟨⟨_, rfl⟩, ho⟩
      go_wp2_with fail
      refine ho.mono ?_
      rintro e w3 ⟨a', A', rfl, hA, ht⟩
      have HA := Lib.hid hA
      clear hA ho h
      go_wp2_with fail
      refine (ht.cmp HI.out).mono ?_
      rintro e w4 ⟨rfl, ht⟩
      go_wp2
      go_roundw
      case rel => exact ⟨_, _, _, _, ht, rfl⟩
      case measure =>
        show numAt w4 a' + numAt w4 _ < numAt wr _ + numAt wr _
        rw [ht.fst.numAt, ht.snd.numAt, hm, hm2]
        have := HA.out
        omega
    · rw [cmpN_self]
      go_wp2
      go_ret
      refine ⟨_, Sa, rfl, h.ha, ?_, h.bel, h.tab⟩
      have := h.gcd
      rw [Nat.gcd_self] at this
      exact this ▸ h.fst
    · rw [cmpN_gt hlt]
      have HL := Lib.hid hlt
      clear hlt
      go_wp2_with fail
      refine (h.take HI.out HL.out).mono ?_
      rintro e w2 ⟨⟨_, rfl⟩, ho⟩
      go_wp2_with fail
      refine ho.mono ?_
      rintro e w3 ⟨a', A', rfl, hA, ht⟩
      have HA := Lib.hid hA
      clear hA ho h
      go_wp2_with fail
      refine (ht.cmp HI.out).mono ?_
      rintro e w4 ⟨rfl, ht⟩
      go_wp2
      go_roundw
      case rel => exact ⟨_, _, _, _, ht, rfl⟩
      case measure =>
        show numAt w4 a' + numAt w4 _ < numAt wr _ + numAt wr _
        rw [ht.fst.numAt, ht.snd.numAt, hm, hm2]
        have := HA.out
        omega
end Go.Proofs.YtppbifijgkcpjaaDoor
