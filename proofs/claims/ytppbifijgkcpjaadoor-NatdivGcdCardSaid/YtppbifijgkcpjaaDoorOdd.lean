/- natdiv.odd: a number, shifted down till it is odd, in its own memory. -/
import Derived.Test.YtppbifijgkcpjaaDoorTakeOff
namespace Go.Proofs.YtppbifijgkcpjaaDoor
open Go.RowKit Go.Shelf

theorem Seg.drop {W : World} {S off q : Nat} {s : List Nat} (h : Seg W S off s) (hq : q ≤ s.length) : Seg W S (off + q) (s.drop q) := by
  obtain ⟨cur, h1, h2, h3⟩ := h
  refine ⟨cur, h1, by rw [List.length_drop]; omega, fun j hj => ?_⟩
  rw [List.length_drop] at hj
  have := h3 (q + j) (by omega)
  rw [Nat.add_assoc, this]
  unfold lim
  rw [List.getElem?_drop]
set_option maxHeartbeats 1000000 in
theorem odd_calls (S off cap : Nat) (xs : List Nat) (hl : xs.length ≤ 17592186044416) (hcap : xs.length ≤ cap) (hlow : Low 18446744073709551616 xs) (h0 : val 18446744073709551616 xs ≠ 0) (w : World) (hT : TabOk w) (hTS : (0 : Nat) ≠ S) (hS : Seg w S off xs) :
    Calls Tryd.prog 18 #[.slice (some ⟨S, off, none⟩) xs.length cap] w fun e W' => ∃ (v : Value) (z m : Nat), e = .returned v ∧ val 18446744073709551616 xs = 2 ^ z * (2 * m + 1) ∧ RdAt S W' v (digs 18446744073709551616 (2 * m + 1)) ∧ Wb W' S ∧ Off S w W' := by
  have hz := callsIn_wide.1 (zeros_in 6 (Nat.le_refl _) S (.slice (some ⟨S, off, none⟩) xs.length cap) xs hl hlow w hT hS.lt (hS.rd hcap))
  have HZ := Lib.hid hz
  clear hz
  go_enter Tryd.func18, Tryd.ntmps18
  go_wp2_with fail
  refine HZ.out.mono ?_
  rintro e w1 ⟨z, rfl, ⟨hzo, hzl⟩, hb1⟩
  obtain ⟨m, hm⟩ : ∃ m, val 18446744073709551616 xs = 2 ^ z * (2 * m + 1) := by
    rcases hzo with ⟨h, _⟩ | h
    · exact absurd h h0
    · exact h
  have hvl := val_lt hlow (by decide)
  have hzlt : z < 64 * xs.length := by
    have h1 : 2 ^ z < 2 ^ (64 * xs.length) := by
      have e : 18446744073709551616 ^ xs.length = 2 ^ (64 * xs.length) := by rw [show 18446744073709551616 = 2 ^ 64 from rfl, ← Nat.pow_mul]
      rw [e, hm] at hvl
      exact Nat.lt_of_le_of_lt (Nat.le_mul_of_pos_right _ (by omega)) hvl
    exact (Nat.pow_lt_pow_iff_right (by decide)).1 h1
  have hS1 := hS.behind hb1
  obtain ⟨q, hq⟩ : ∃ q, q = z / 64 := ⟨_, rfl⟩
  obtain ⟨p, hp⟩ : ∃ p, p = z % 64 := ⟨_, rfl⟩
  have hqI : (z : Int) / 64 = (q : Int) := by omega
  have hpI : (z : Int) % 64 = (p : Int) := by omega
  have hp64 : p < 64 := by omega
  have hql : q < xs.length := by omega
  have hzqp : z = 64 * q + p := by omega
  have hval : Hid (val 18446744073709551616 (xs.drop q) / 2 ^ p = 2 * m + 1) := Lib.hid (by
    rw [val_drop (by decide) hlow, hm, show 18446744073709551616 = 2 ^ 64 from rfl, ← Nat.pow_mul, Nat.div_div_eq_div_mul, ← Nat.pow_add, ← hzqp, Nat.mul_div_cancel_left _ (Nat.pow_pos (by decide))])
  have hdl : (xs.drop q).length = xs.length - q := List.length_drop
  have hlo := lower_calls S (off + q) (cap - q) (xs.drop q) p (by omega) (by omega) hp64 (fun x hx => hlow x (List.mem_of_mem_drop hx)) w1 (hS1.drop (by omega))
  rw [hdl, hval.out] at hlo
  have HLO := Lib.hid hlo
  have HM := Lib.hid hm
  have hqc : q ≤ cap := by omega
  have hqx : q ≤ xs.length := by omega
  clear hlo hdl hval hzo hzl hvl hzlt hm hq hp hzqp hS1 hS HZ
  go_wp2_with fail
  refine HLO.out.mono ?_
  rintro e w2 ⟨v, rfl, hr, hwb, hO⟩
  obtain ⟨va, vc, rfl, _⟩ := hr.slice
  go_wp2
  go_ret
  exact ⟨_, z, m, rfl, HM.out, hr, hwb, ⟨hO.os.trans hb1.os, hO.tape.trans hb1.tape, hO.output.trans hb1.output, Nat.le_trans hb1.size hO.size, fun i hi hn => (hO.block i (Nat.lt_of_lt_of_le hi hb1.size) hn).trans (hb1.block i hi)⟩⟩
/-- a number that is told in memory that may be written -/
def Own (w : World) (S : Nat) (v : Value) (A : Nat) : Prop := RdAt S w v (digs 18446744073709551616 A) ∧ Wb w S
theorem Own.kept {w w' : World} {S A : Nat} {v : Value} (h : Own w S v A) (hk : w'.heap[S]? = w.heap[S]?) : Own w' S v A := ⟨h.1.kept hk, h.2.kept hk⟩
theorem Own.behind {w w' : World} {S A : Nat} {v : Value} (h : Own w S v A) (hb : Below w.heap.size w w') : Own w' S v A := h.kept (hb.block S h.2.lt)
theorem Own.seg {w : World} {S A : Nat} {v : Value} (h : Own w S v A) (h0 : A ≠ 0) : ∃ off cap, v = .slice (some ⟨S, off, none⟩) (digs 18446744073709551616 A).length cap ∧ (digs 18446744073709551616 A).length ≤ cap ∧ Seg w S off (digs 18446744073709551616 A) :=
  h.2.seg h.1 (by rw [digs_pos (by decide) h0]; simp)
theorem Own.num {w : World} {S A k : Nat} {v : Value} (h : Own w S v A) (hk : A < 18446744073709551616 ^ k) : Num w v A k := ⟨_, ⟨S, h.2.lt, h.1⟩, digs_low (by decide) A, val_digs (by decide) A, digs_length (by decide) hk⟩
/-- one step of the halving: what is greater, less the other, made odd, keeps what divides both -/
theorem gcd_step {A B z M : Nat} (hB : B % 2 = 1) (hle : B ≤ A) (h : A - B = 2 ^ z * M) : Nat.gcd M B = Nat.gcd A B := by
  have h1 : Nat.gcd (A - B) B = Nat.gcd A B := by
    obtain ⟨d, rfl⟩ := Nat.exists_eq_add_of_le hle
    rw [Nat.add_sub_cancel_left]
    exact (Nat.gcd_self_add_left B d).symm
  have h2 : Nat.gcd (2 ^ z) B = 1 := by
    have h3 : Nat.Coprime 2 B := show Nat.gcd 2 B = 1 by rw [Nat.gcd_rec, hB]; rfl
    exact Nat.Coprime.pow_left z h3
  rw [← h1, h]
  exact (Nat.Coprime.gcd_mul_left_cancel M h2).symm
end Go.Proofs.YtppbifijgkcpjaaDoor
