/- The program's calls, said of numbers: an argument is a number, whatever list it is told by. -/
import Derived.Test.YtjapilpjahhimaaArg
import Derived.Test.YtjapilpjahhimaaMul
import Derived.Test.YtjapilpjahhimaaBitNum
import Derived.Test.YtjapilpjahhimaaBits
namespace Go.Proofs.Ytjapilpjahhimaa
open Go.RowKit Go.Shelf

/-- v is told as the number N, in at most k words -/
def Num (w : World) (v : Value) (N k : Nat) : Prop := ∃ xs, Arg w v xs ∧ Low 18446744073709551616 xs ∧ val 18446744073709551616 xs = N ∧ xs.length ≤ k
theorem Num.behind {w w' : World} {v : Value} {N k : Nat} (h : Num w v N k) (hb : Below w.heap.size w w') : Num w' v N k := by
  obtain ⟨xs, h1, h2⟩ := h
  exact ⟨xs, h1.behind hb, h2⟩
theorem New.num {n : Nat} {W : World} {v : Value} {N k : Nat} (h : New n W v (digs 18446744073709551616 N)) (hk : N < 18446744073709551616 ^ k) : Num W v N k :=
  ⟨_, h.arg, digs_low (by decide) N, val_digs (by decide) N, digs_length (by decide) hk⟩
theorem Num.lt {w : World} {v : Value} {N k : Nat} (h : Num w v N k) : N < 18446744073709551616 ^ k := by
  obtain ⟨xs, _, h2, rfl, h4⟩ := h
  exact Nat.lt_of_lt_of_le (val_lt h2 (by decide)) (Nat.pow_le_pow_right (by decide) h4)
theorem Num.slice {w : World} {v : Value} {N k : Nat} (h : Num w v N k) : ∃ a m cap, v = .slice a m cap := by
  obtain ⟨xs, h1, _⟩ := h
  obtain ⟨a, cap, e⟩ := h1.slice
  exact ⟨a, _, cap, e⟩
theorem pow_add_lt {M N i j : Nat} (hM : M < 18446744073709551616 ^ i) (hN : N < 18446744073709551616 ^ j) : M + N < 18446744073709551616 ^ (i + j + 1) := by
  have h1 : 18446744073709551616 ^ i ≤ 18446744073709551616 ^ (i + j) := Nat.pow_le_pow_right (by decide) (by omega)
  have h2 : 18446744073709551616 ^ j ≤ 18446744073709551616 ^ (i + j) := Nat.pow_le_pow_right (by decide) (by omega)
  rw [Nat.pow_succ]
  omega
theorem pow_mul_lt {M N i j : Nat} (hM : M < 18446744073709551616 ^ i) (hN : N < 18446744073709551616 ^ j) : M * N < 18446744073709551616 ^ (i + j) := by
  rw [Nat.pow_add]
  exact Nat.mul_lt_mul'' hM hN
section
variable {va vb : Value} {M N i j : Nat} {w : World}
theorem same_num {n n' : Nat} {K : Nat} (hA : New n w va (digs 18446744073709551616 M)) (hB : New n' w vb (digs 18446744073709551616 N)) (h : M = N) (hM : Num w va M K) (hK : K ≤ 9223372036854775806) :
    Calls Try.prog 34 #[va, vb] w fun e W' => e = .returned (.bool true) ∧ Below w.heap.size w W' := by
  subst h
  exact same_arg hA.arg hB.arg (Nat.le_trans (digs_length (by decide) hM.lt) hK)
end
end Go.Proofs.Ytjapilpjahhimaa

/- More of nat's calls, said of numbers. -/
namespace Go.Proofs.Ytjapilpjahhimaa
open Go.RowKit Go.Shelf

theorem pow_dist_lt {M N i j : Nat} (hM : M < 18446744073709551616 ^ i) (hN : N < 18446744073709551616 ^ j) : dist M N < 18446744073709551616 ^ (i + j) := by
  have h1 : 18446744073709551616 ^ i ≤ 18446744073709551616 ^ (i + j) := Nat.pow_le_pow_right (by decide) (by omega)
  have h2 : 18446744073709551616 ^ j ≤ 18446744073709551616 ^ (i + j) := Nat.pow_le_pow_right (by decide) (by omega)
  unfold dist
  omega
section
variable {va vb : Value} {M N i j : Nat} {w : World}
theorem same_new {n n' K : Nat} (hA : New n w va (digs 18446744073709551616 M)) (hB : New n' w vb (digs 18446744073709551616 N)) (h : M = N) (hM : M < 18446744073709551616 ^ K) (hK : K ≤ 9223372036854775806) :
    Calls Try.prog 34 #[va, vb] w fun e W' => e = .returned (.bool true) ∧ Below w.heap.size w W' := by
  subst h
  exact same_arg hA.arg hB.arg (Nat.le_trans (digs_length (by decide) hM) hK)
end
theorem New.slice {n : Nat} {W : World} {v : Value} {xs : List Nat} (h : New n W v xs) : ∃ a cap, v = .slice a xs.length cap ∧ xs.length ≤ cap := by
  obtain ⟨S, h1, _⟩ := h
  obtain ⟨a, cap, e, h2, _⟩ := h1.slice
  exact ⟨a, cap, e, h2⟩
/-- the number that a list of words in memory is -/
def numAt (W : World) : Value → Nat
  | .slice (some a) len _ => val 18446744073709551616 ((List.range len).map fun j => match W.cell? ⟨a.block, a.off + j, none⟩ with | some (.int _ z) => z.toNat | _ => 0)
  | _ => 0
theorem RdAt.num {S : Nat} {W : World} {v : Value} {xs : List Nat} (h : RdAt S W v xs) : numAt W v = val 18446744073709551616 xs := by
  rcases h with ⟨⟨a, c, rfl⟩, rfl⟩ | ⟨off, cap, rfl, _, hc⟩
  · cases a <;> rfl
  · show val _ ((List.range xs.length).map _) = _
    congr 1
    apply List.ext_getElem (by simp)
    intro j h1 h2
    simp [hc j h2, lim, h2]
theorem New.numAt {n : Nat} {W : World} {v : Value} {G : Nat} (h : New n W v (digs 18446744073709551616 G)) : numAt W v = G := by
  obtain ⟨S, h1, _⟩ := h
  rw [h1.num, val_digs (by decide)]
end Go.Proofs.Ytjapilpjahhimaa
