/- vec: Check, checkPair, Dot, Largest. -/
import Derived.Test.YtjljmccdlkdgoaaFmNum
import Derived.Test.YtjljmccdlkdgoaaShSpec
import Derived.Test.YtjljmccdlkdgoaaFaOwn
import Derived.Test.YtjljmccdlkdgoaaFmSpec
import Derived.Test.YtjljmccdlkdgoaaFcNum
namespace Go.Proofs.Ytjljmccdlkdgoaa
open Go.RowKit Go.Shelf
theorem finB_any (xs : List Nat) : finB xs xs.length = !(xs.any fun x => decide (2 ≤ cls x)) := by
  cases h : xs.any (fun x => decide (2 ≤ cls x))
  · rw [Bool.not_false, finB_iff]
    intro j hj
    rw [List.any_eq_false] at h
    have := h (lim xs j) (by unfold lim; rw [List.getElem?_eq_getElem hj]; exact List.getElem_mem hj)
    simp only [decide_eq_true_eq] at this
    omega
  · rw [Bool.not_true]
    obtain ⟨x, hx, h2⟩ := List.any_eq_true.1 h
    obtain ⟨j, hj, rfl⟩ := List.getElem_of_mem hx
    refine finB_not hj ?_
    unfold lim
    rw [List.getElem?_eq_getElem hj]
    simpa using h2
def nfE (a : Nat) : Int := if 2 ≤ cls a then 12 else 0
/-- what Dot tells: its error -/
def dotE (xs ys : List Nat) : Int := if bothV xs ys 0 ≠ 0 then bothV xs ys 0 else if cls (dotV xs ys xs.length) ≤ 1 then 0 else 13
def dotR (xs ys : List Nat) : Nat := if dotE xs ys = 0 then dotV xs ys xs.length else 0
end Go.Proofs.Ytjljmccdlkdgoaa
