/- natdiv.odd: a number, shifted down till it is odd, in its own memory. -/
import Derived.Test.YtfbnpdlkbabmfaaDoorTakeOff
import Derived.Test.YtfbnpdlkbabmfaaDoorLower
import Derived.Test.YtfbnpdlkbabmfaaDoorShl
namespace Go.Proofs.YtfbnpdlkbabmfaaDoor
open Go.RowKit Go.Shelf

theorem Seg.drop {W : World} {S off q : Nat} {s : List Nat} (h : Seg W S off s) (hq : q ≤ s.length) : Seg W S (off + q) (s.drop q) := by
  obtain ⟨cur, h1, h2, h3⟩ := h
  refine ⟨cur, h1, by rw [List.length_drop]; omega, fun j hj => ?_⟩
  rw [List.length_drop] at hj
  have := h3 (q + j) (by omega)
  rw [Nat.add_assoc, this]
  unfold lim
  rw [List.getElem?_drop]
set_option maxHeartbeats 1000000 in
theorem odd_calls (S off cap : Nat) (xs : List Nat) (hl : xs.length ≤ 17592186044416) (hcap : xs.length ≤ cap) (hlow : Low 18446744073709551616 xs) (h0 : val 18446744073709551616 xs ≠ 0) (w : World) (hT : TabOk w) (hTS : (0 : Nat) ≠ S) (hS : Seg w S off xs) :
    Calls Tryd.prog 59 #[.slice (some ⟨S, off, none⟩) xs.length cap] w fun e W' => ∃ (v : Value) (z m : Nat), e = .returned v ∧ val 18446744073709551616 xs = 2 ^ z * (2 * m + 1) ∧ RdAt S W' v (digs 18446744073709551616 (2 * m + 1)) ∧ Wb W' S ∧ Off S w W' := by
  have hz := callsIn_wide.1 (zeros_in 6 (Nat.le_refl _) S (.slice (some ⟨S, off, none⟩) xs.length cap) xs hl hlow w hT hS.lt (hS.rd hcap))
  have HZ := Lib.hid hz
  clear hz
  go_enter Tryd.func59, Tryd.ntmps59
  go_wp2_with fail
  refine HZ.out.mono ?_
  rintro e w1 ⟨z, rfl, ⟨hzo, hzl⟩, hb1⟩
  obtain ⟨m, hm⟩ : ∃ m, val 18446744073709551616 xs = 2 ^ z * (2 * m + 1) := by
    rcases hzo with ⟨h, _⟩ | h
    · exact absurd h h0
    · exact h
  have hvl := val_lt hlow (by decide)
  have hzlt : z < 64 * xs.length := by
    have h1 : 2 ^ z < 2 ^ (64 * xs.length) := by
      have e : 18446744073709551616 ^ xs.length = 2 ^ (64 * xs.length) := by rw [show 18446744073709551616 = 2 ^ 64 from rfl, ← Nat.pow_mul]
      rw [e, hm] at hvl
      exact Nat.lt_of_le_of_lt (Nat.le_mul_of_pos_right _ (by omega)) hvl
    exact (Nat.pow_lt_pow_iff_right (by decide)).1 h1
  have hS1 := hS.behind hb1
  obtain ⟨q, hq⟩ : ∃ q, q = z / 64 := ⟨_, rfl⟩
  obtain ⟨p, hp⟩ : ∃ p, p = z % 64 := ⟨_, rfl⟩
  have hqI : (z : Int) / 64 = (q : Int) := by omega
  have hpI : (z : Int) % 64 = (p : Int) := by omega
  have hp64 : p < 64 := by omega
  have hql : q < xs.length := by omega
  have hzqp : z = 64 * q + p := by omega
  have hval : Hid (val 18446744073709551616 (xs.drop q) / 2 ^ p = 2 * m + 1) := Lib.hid (by
    rw [val_drop (by decide) hlow, hm, show 18446744073709551616 = 2 ^ 64 from rfl, ← Nat.pow_mul, Nat.div_div_eq_div_mul, ← Nat.pow_add, ← hzqp, Nat.mul_div_cancel_left _ (Nat.pow_pos (by decide))])
  have hdl : (xs.drop q).length = xs.length - q := List.length_drop
  have hlo := lower_calls S (off + q) (cap - q) (xs.drop q) p (by omega) (by omega) hp64 (fun x hx => hlow x (List.mem_of_mem_drop hx)) w1 (hS1.drop (by omega))
  rw [hdl, hval.out] at hlo
  have HLO := Lib.hid hlo
  have HM := Lib.hid hm
  have hqc : q ≤ cap := by omega
  have hqx : q ≤ xs.length := by omega
  clear hlo hdl hval hzo hzl hvl hzlt hm hq hp hzqp hS1 hS HZ
  go_wp2_with fail
  refine HLO.out.mono ?_
  rintro e w2 ⟨v, rfl, hr, hwb, hO⟩
  obtain ⟨va, vc, rfl, _⟩ := hr.slice
  go_wp2
  go_ret
  exact ⟨_, z, m, rfl, HM.out, hr, hwb, ⟨hO.os.trans hb1.os, hO.tape.trans hb1.tape, hO.output.trans hb1.output, Nat.le_trans hb1.size hO.size, fun i hi hn => (hO.block i (Nat.lt_of_lt_of_le hi hb1.size) hn).trans (hb1.block i hi)⟩⟩
/-- a number that is told in memory that may be written -/
def Own (w : World) (S : Nat) (v : Value) (A : Nat) : Prop := RdAt S w v (digs 18446744073709551616 A) ∧ Wb w S
theorem Own.kept {w w' : World} {S A : Nat} {v : Value} (h : Own w S v A) (hk : w'.heap[S]? = w.heap[S]?) : Own w' S v A := ⟨h.1.kept hk, h.2.kept hk⟩
theorem Own.behind {w w' : World} {S A : Nat} {v : Value} (h : Own w S v A) (hb : Below w.heap.size w w') : Own w' S v A := h.kept (hb.block S h.2.lt)
theorem Own.seg {w : World} {S A : Nat} {v : Value} (h : Own w S v A) (h0 : A ≠ 0) : ∃ off cap, v = .slice (some ⟨S, off, none⟩) (digs 18446744073709551616 A).length cap ∧ (digs 18446744073709551616 A).length ≤ cap ∧ Seg w S off (digs 18446744073709551616 A) :=
  h.2.seg h.1 (by rw [digs_pos (by decide) h0]; simp)
theorem Own.num {w : World} {S A k : Nat} {v : Value} (h : Own w S v A) (hk : A < 18446744073709551616 ^ k) : Num w v A k := ⟨_, ⟨S, h.2.lt, h.1⟩, digs_low (by decide) A, val_digs (by decide) A, digs_length (by decide) hk⟩
/-- one step of the halving: what is greater, less the other, made odd, keeps what divides both -/
theorem gcd_step {A B z M : Nat} (hB : B % 2 = 1) (hle : B ≤ A) (h : A - B = 2 ^ z * M) : Nat.gcd M B = Nat.gcd A B := by
  have h1 : Nat.gcd (A - B) B = Nat.gcd A B := by
    obtain ⟨d, rfl⟩ := Nat.exists_eq_add_of_le hle
    rw [Nat.add_sub_cancel_left]
    exact (Nat.gcd_self_add_left B d).symm
  have h2 : Nat.gcd (2 ^ z) B = 1 := by
    have h3 : Nat.Coprime 2 B := show Nat.gcd 2 B = 1 by rw [Nat.gcd_rec, hB]; rfl
    exact Nat.Coprime.pow_left z h3
  rw [← h1, h]
  exact (Nat.Coprime.gcd_mul_left_cancel M h2).symm
end Go.Proofs.YtfbnpdlkbabmfaaDoor

/- natdiv.oddGcd: what divides two odd numbers, by halving, in their own memory. -/
namespace Go.Proofs.YtfbnpdlkbabmfaaDoor
open Go.RowKit Go.Shelf

theorem Own.numAt {w : World} {S A : Nat} {v : Value} (h : Own w S v A) : numAt w v = A := by
  rw [h.1.num, val_digs (by decide)]
theorem Own.off {w w' : World} {S T A : Nat} {v : Value} (h : Own w T v A) (ho : Off S w w') (hn : T ≠ S) : Own w' T v A := h.kept (ho.block T h.2.lt hn)
theorem Own.new {w : World} {n S A : Nat} {v : Value} (h : Own w S v A) (hn : n ≤ S) : New n w v (digs 18446744073709551616 A) := ⟨S, h.1, h.2.lt, .inr hn⟩
/-- two odd numbers in memory of their own -/
structure Two (n0 i G : Nat) (w0 w : World) (a b : Value) (Sa Sb A B : Nat) : Prop where
  fst : Own w Sa a A
  snd : Own w Sb b B
  ne : Sa ≠ Sb
  ha : n0 ≤ Sa
  hb : n0 ≤ Sb
  oa : A % 2 = 1
  ob : B % 2 = 1
  la : A < 18446744073709551616 ^ i
  lb : B < 18446744073709551616 ^ i
  gcd : Nat.gcd A B = G
  tab : TabOk w
  tn : (0 : Nat) < n0
  bel : Below n0 w0 w
  le : n0 ≤ w0.heap.size
theorem Two.swap {n0 i G : Nat} {w0 w : World} {a b : Value} {Sa Sb A B : Nat} (h : Two n0 i G w0 w a b Sa Sb A B) : Two n0 i G w0 w b a Sb Sa B A :=
  ⟨h.snd, h.fst, h.ne.symm, h.hb, h.ha, h.ob, h.oa, h.lb, h.la, by rw [Nat.gcd_comm]; exact h.gcd, h.tab, h.tn, h.bel, h.le⟩
theorem Two.behind {n0 i G : Nat} {w0 w w' : World} {a b : Value} {Sa Sb A B : Nat} (h : Two n0 i G w0 w a b Sa Sb A B) (k : Below w.heap.size w w') : Two n0 i G w0 w' a b Sa Sb A B :=
  ⟨h.fst.behind k, h.snd.behind k, h.ne, h.ha, h.hb, h.oa, h.ob, h.la, h.lb, h.gcd, h.tab.behind k, h.tn, h.bel.trans (k.mono (Nat.le_trans h.le h.bel.size)), h.le⟩
theorem Two.cmp {n0 i G : Nat} {w0 w : World} {a b : Value} {Sa Sb A B : Nat} (h : Two n0 i G w0 w a b Sa Sb A B) (hi : i ≤ 17592186044416) :
    Calls Tryd.prog 39 #[a, b] w fun e W' => e = .returned (.int .i64 (cmpN A B)) ∧ Two n0 i G w0 W' a b Sa Sb A B :=
  (cmp_num (h.fst.num h.la) (h.snd.num h.lb) hi hi).mono fun _ _ k => ⟨k.1, h.behind k.2⟩
/-- takeOff and odd, one after the other -/
theorem Two.take {n0 i G : Nat} {w0 w : World} {a b : Value} {Sa Sb A B : Nat} (h : Two n0 i G w0 w a b Sa Sb A B) (hi : i ≤ 17592186044416) (hlt : B < A) :
    Calls Tryd.prog 71 #[a, b] w fun e W' => (∃ v, e = .returned v) ∧
      Calls Tryd.prog 59 #[a] W' fun e W2 => ∃ a' A', e = .returned a' ∧ A' < A ∧ Two n0 i G w0 W2 a' b Sa Sb A' B := by
  obtain ⟨off, cap, rfl, hcap, hseg⟩ := h.fst.seg (by omega)
  have hdl := digs_length (B := 18446744073709551616) (by decide) h.la
  have hdl2 := digs_length (B := 18446744073709551616) (by decide) h.lb
  have hxl := digs_low (B := 18446744073709551616) (by decide) A
  have hyl := digs_low (B := 18446744073709551616) (by decide) B
  have hvA := val_digs (B := 18446744073709551616) (by decide) A
  have hvB := val_digs (B := 18446744073709551616) (by decide) B
  have hll := low_length_le (B := 18446744073709551616) (by decide) hxl (cutz_digs (B := 18446744073709551616) (by decide) B) (by rw [hvA, hvB]; omega)
  refine (callsIn_wide.1 (takeOff_in 6 (Nat.le_refl _) Sa off cap Sb b _ _ (by omega) (by omega) hcap hxl hyl w hseg h.snd.2.lt h.ne.symm h.snd.1)).mono ?_
  rintro e W1 ⟨hv, hs, ho⟩
  refine ⟨hv, ?_⟩
  obtain ⟨f1, f2, f3, f4, f5⟩ := tf_fine hxl hyl _ (Nat.le_refl (digs 18446744073709551616 A).length)
  have fv := tf_all hxl hyl hll (by rw [hvA, hvB]; omega)
  rw [hvA, hvB] at fv
  rw [← f1]
  have hT1 := h.tab.off ho (by have := h.tn; have := h.ha; omega)
  refine (odd_calls Sa off cap _ (by omega) (by omega) f3 (by rw [fv]; omega) W1 hT1 (by have := h.tn; have := h.ha; omega) hs).mono ?_
  rintro e W2 ⟨v, z, m, rfl, hval, hr, hwb, ho2⟩
  rw [fv] at hval
  have hle : 2 * m + 1 ≤ A - B := by
    rw [hval]
    exact Nat.le_mul_of_pos_left _ (Nat.pow_pos (by decide))
  have hB1 := h.ob
  refine ⟨v, 2 * m + 1, rfl, by omega, ⟨⟨hr, hwb⟩, (h.snd.off ho h.ne.symm).off ho2 h.ne.symm, h.ne, h.ha, h.hb, by omega, h.ob, by have := h.la; omega, h.lb, ?_, hT1.off ho2 (by have := h.tn; have := h.ha; omega), h.tn, ?_, h.le⟩⟩
  · rw [gcd_step hB1 (by omega) hval]
    exact h.gcd
  · have h1 := Nat.le_trans h.le h.bel.size
    exact (Off.to_below h.bel ho h.ha h1).trans (Off.to_below (Below.refl _ W1) ho2 h.ha (Nat.le_trans h1 ho.size))
set_option maxHeartbeats 1000000 in
theorem oddGcd_calls {n0 i G : Nat} {w : World} {va vb : Value} {Sa Sb A B : Nat} (h : Two n0 i G w w va vb Sa Sb A B) (hi : i ≤ 17592186044416) :
    Calls Tryd.prog 58 #[va, vb] w fun e W' => ∃ v S, e = .returned v ∧ n0 ≤ S ∧ Own W' S v G ∧ Below n0 w W' ∧ TabOk W' := by
  have HI := Lib.hid hi
  go_enter Tryd.func58, Tryd.ntmps58
  go_wp2_with fail
  refine (h.cmp hi).mono ?_
  rintro e w1 ⟨rfl, h1⟩
  clear h
  go_wp2_with fail
  go_loopw [0, 1, 5] (fun a b o wr => ∃ Sa Sb A B : Nat, Two n0 i G w wr a b Sa Sb A B ∧ o = .int .i64 (cmpN A B)) (fun a b _ wr => numAt wr a + numAt wr b)
  case atStart => exact ⟨_, _, _, _, h1, rfl⟩
  case round =>
    obtain ⟨Sa, Sb, A, B, h, rfl⟩ := hrel
    have hm := h.fst.numAt
    have hm2 := h.snd.numAt
    rcases Nat.lt_trichotomy A B with hlt | rfl | hlt
    · rw [cmpN_lt hlt]
      have HL := Lib.hid hlt
      clear hlt
      go_wp2_with fail
      refine (h.swap.take HI.out HL.out).mono ?_
      rintro e w2 ⟨⟨_, rfl⟩, ho⟩
      go_wp2_with fail
      refine ho.mono ?_
      rintro e w3 ⟨a', A', rfl, hA, ht⟩
      have HA := Lib.hid hA
      clear hA ho h
      go_wp2_with fail
      refine (ht.cmp HI.out).mono ?_
      rintro e w4 ⟨rfl, ht⟩
      go_wp2
      go_roundw
      case rel => exact ⟨_, _, _, _, ht, rfl⟩
      case measure =>
        show numAt w4 a' + numAt w4 _ < numAt wr _ + numAt wr _
        rw [ht.fst.numAt, ht.snd.numAt, hm, hm2]
        have := HA.out
        omega
    · rw [cmpN_self]
      go_wp2
      go_ret
      refine ⟨_, Sa, rfl, h.ha, ?_, h.bel, h.tab⟩
      have := h.gcd
      rw [Nat.gcd_self] at this
      exact this ▸ h.fst
    · rw [cmpN_gt hlt]
      have HL := Lib.hid hlt
      clear hlt
      go_wp2_with fail
      refine (h.take HI.out HL.out).mono ?_
      rintro e w2 ⟨⟨_, rfl⟩, ho⟩
      go_wp2_with fail
      refine ho.mono ?_
      rintro e w3 ⟨a', A', rfl, hA, ht⟩
      have HA := Lib.hid hA
      clear hA ho h
      go_wp2_with fail
      refine (ht.cmp HI.out).mono ?_
      rintro e w4 ⟨rfl, ht⟩
      go_wp2
      go_roundw
      case rel => exact ⟨_, _, _, _, ht, rfl⟩
      case measure =>
        show numAt w4 a' + numAt w4 _ < numAt wr _ + numAt wr _
        rw [ht.fst.numAt, ht.snd.numAt, hm, hm2]
        have := HA.out
        omega
end Go.Proofs.YtfbnpdlkbabmfaaDoor
