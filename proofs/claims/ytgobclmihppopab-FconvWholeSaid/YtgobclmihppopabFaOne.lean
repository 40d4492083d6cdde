/- fadd: zeroSign, lower, take. -/
import Derived.Test.YtgobclmihppopabPaSpec
import Derived.Test.YtgobclmihppopabFlip
import Derived.Test.YtgobclmihppopabFaOwn
import Derived.Test.YtgobclmihppopabSmall
import Derived.Laws.Bits64
namespace Go.Proofs.Ytgobclmihppopab
open Go.RowKit Go.Shelf

theorem fadd_sign {s t : Bool} {mode : Int} {w : World} :
    Calls Try.prog 103 #[.bool s, .bool t, .int .i64 mode] w fun e W' => e = .returned (.bool (if s = t then s else decide (mode = 4))) ∧ w = W' := by
  have hm : (mode == 4) = decide (mode = 4) := by
    by_cases h : mode = 4
    · subst h; rfl
    · rw [decide_eq_false h]; exact beq_eq_false_iff_ne.2 h
  generalize decide (mode = 4) = d at *
  cases s <;> cases t
  all_goals
    go_enter Try.func103, Try.ntmps103
    go_wp2
    go_ret
    exact ⟨rfl, rfl⟩
set_option maxRecDepth 100000 in
theorem fadd_lower {m n : Nat} {w : World} (hm : m < 9007199254740992) (hn : n ≤ 3000) :
    Calls Try.prog 101 #[.int .u64 (m : Int), .int .i64 (n : Int)] w fun e W' => e = .returned (.tuple #[.int .u64 (faHi m n : Int), .int .u64 (faLo m n : Int), .bool (faMore m n)]) ∧ Below w.heap.size w W' := by
  have hm' : (m : Int) ≤ 9007199254740991 := by omega
  have hn' : (n : Int) ≤ 3000 := by omega
  by_cases h : 64 < n
  · obtain ⟨f1, f2⟩ := fa_far (m := m) h
    have hmo : faMore m n = ((m : Int) != 0) := by
      unfold faMore
      rw [decide_eq_true h, Bool.true_and]
      by_cases h0 : m = 0
      · subst h0; rfl
      · rw [decide_eq_true h0]
        have : ((m : Int) == 0) = false := beq_eq_false_iff_ne.2 (by omega)
        rw [bne, this]; rfl
    rw [f1, f2, hmo]
    have d1 : decide ((64 : Int) < (n : Int)) = true := decide_eq_true (by omega)
    clear h f1 f2 hmo hm hn
    go_enter Try.func101, Try.ntmps101
    go_wp2
    go_ret3
    exact ⟨rfl, Below.refl _ _⟩
  · have d1 : decide ((64 : Int) < (n : Int)) = false := decide_eq_false (by omega)
    have s1 := shr_any (x := m) (by omega) n
    have s2 := shl_any m (64 - n)
    have hhi : faHi m n = m / 2 ^ n := by unfold faHi; rw [if_neg h]
    have hlo : faLo m n = m * 2 ^ (64 - n) % 18446744073709551616 := by unfold faLo; rw [if_neg h]
    have hmo : faMore m n = false := by unfold faMore; rw [decide_eq_false h]; rfl
    have z1 : (64 : Int) - (n : Int) = ((64 - n : Nat) : Int) := by omega
    have hk : ((64 - n : Nat) : Int) ≤ 64 := by omega
    rw [Nat.min_eq_left (by omega)] at s1
    rw [hhi, hlo, hmo]
    clear hhi hlo hmo
    have h1 : m / 2 ^ n ≤ 18446744073709551615 := Nat.le_trans (Nat.div_le_self _ _) (by omega)
    have h2 : m * 2 ^ (64 - n) % 18446744073709551616 ≤ 18446744073709551615 := by omega
    generalize m * 2 ^ (64 - n) % 18446744073709551616 = L at *
    generalize m / 2 ^ n = H at *
    generalize 64 - n = k at *
    clear h hm hn
    go_enter Try.func101, Try.ntmps101
    go_wp2
    go_quiet (fail)
    go_wp2
    go_ret3
    exact ⟨rfl, below_drewN _ _ _⟩
set_option maxRecDepth 100000 in
theorem take_words {m hi lo p : Nat} (hp : p ≤ 1) (hm : m < 18446744073709551616) (hh : hi < 18446744073709551616) (hl : lo < 18446744073709551616) (h : hi * 18446744073709551616 + lo + p ≤ m * 18446744073709551616) :
    sub64 m hi (borrow64 0 lo p) * 18446744073709551616 + sub64 0 lo p + (hi * 18446744073709551616 + lo) + p = m * 18446744073709551616 := by
  unfold sub64 borrow64
  split <;> omega
set_option maxRecDepth 100000 in
theorem fadd_take {m hi lo : Nat} {more : Bool} {w : World} (hm : m < 18446744073709551616) (hh : hi < 18446744073709551616) (hl : lo < 18446744073709551616) (h : hi * 18446744073709551616 + lo + (if more then 1 else 0) ≤ m * 18446744073709551616) :
    Calls Try.prog 102 #[.int .u64 (m : Int), .int .u64 (hi : Int), .int .u64 (lo : Int), .bool more] w fun e W' => ∃ H L : Nat, e = .returned (.tuple #[.int .u64 (H : Int), .int .u64 (L : Int)]) ∧
      H ≤ 18446744073709551615 ∧ L ≤ 18446744073709551615 ∧ H * 18446744073709551616 + L + (hi * 18446744073709551616 + lo) + (if more then 1 else 0) = m * 18446744073709551616 ∧ w = W' := by
  obtain ⟨p, hp⟩ : ∃ p : Nat, (if more then 1 else 0) = p := ⟨_, rfl⟩
  have hpd : p ≤ 1 := by rw [← hp]; split <;> omega
  rw [hp] at h ⊢
  have hw := take_words (p := p) hpd hm hh hl h
  have k1 : sub64 0 lo p ≤ 18446744073709551615 := by unfold sub64; omega
  have k2 : sub64 m hi (borrow64 0 lo p) ≤ 18446744073709551615 := by unfold sub64; omega
  have hb : borrow64 0 lo p ≤ 1 := by unfold borrow64; split <;> omega
  have r1 : ∀ u : World, (callFunc 99 #[.int .u64 0, .int .u64 (lo : Int), .int .u64 (p : Int)]).run Try.prog u = .ok (.value (.tuple #[.int .u64 (sub64 0 lo p : Int), .int .u64 (borrow64 0 lo p : Int)])) u := sub64_run 0 lo p hpd
  have r2 : ∀ u : World, (callFunc 99 #[.int .u64 (m : Int), .int .u64 (hi : Int), .int .u64 (borrow64 0 lo p : Int)]).run Try.prog u = .ok (.value (.tuple #[.int .u64 (sub64 m hi (borrow64 0 lo p) : Int), .int .u64 (borrow64 m hi (borrow64 0 lo p) : Int)])) u := sub64_run m hi _ hb
  have hfn : Fence.wide.fn 99 := trivial
  generalize sub64 m hi (borrow64 0 lo p) = H at *
  generalize borrow64 m hi (borrow64 0 lo p) = B2 at *
  generalize sub64 0 lo p = L at *
  generalize borrow64 0 lo p = B1 at *
  have HW := Lib.hid hw
  have HP : Hid (p = (if more then 1 else 0)) := Lib.hid hp.symm
  clear hw h hm hh hl hb hpd hp
  cases more
  · have hpi : (p : Int) = 0 := by
      have h0 : p = 0 := by rw [HP.out]; rfl
      rw [h0]; rfl
    rw [hpi] at r1
    clear hpi HP
    go_enter Try.func102, Try.ntmps102
    go_wp2
    go_ret2
    exact ⟨H, L, rfl, k2, k1, HW.out, rfl⟩
  · have hpi : (p : Int) = 1 := by
      have h0 : p = 1 := by rw [HP.out]; rfl
      rw [h0]; rfl
    rw [hpi] at r1
    clear hpi HP
    go_enter Try.func102, Try.ntmps102
    go_wp2
    go_ret2
    exact ⟨H, L, rfl, k2, k1, HW.out, rfl⟩
end Go.Proofs.Ytgobclmihppopab
