/- nat.Even: is the lowest word even? -/
import Derived.Test.YtppbifijgkcpjaaBits
namespace Go.Proofs.Ytppbifijgkcpjaa
open Go.RowKit Go.Shelf

set_option maxHeartbeats 400000 in
theorem even_calls (b : Nat) (v : Value) (xs : List Nat) (hx : Low 18446744073709551616 xs) (w : World) (hI : RdAt b w v xs) :
    Calls Try.prog 27 #[v] w fun e w' => e = .returned (.bool (decide (lim xs 0 % 2 = 0))) ∧ w = w' := by
  have hl := lim_lt hx (by decide) 0
  have hand : bits .and .u64 (lim xs 0 : Int) 1 = ((lim xs 0 % 2 : Nat) : Int) := by
    have h := bits_and_u64_nat (lim xs 0) 1 hl (by omega)
    rw [Nat.and_one_is_mod] at h
    exact h
  obtain ⟨a, cap, rfl, _, _⟩ := hI.slice
  go_enter Try.func27, Try.ntmps27
  go_wp2_with fail
  refine (limb_calls _ xs b 0 _ hI).mono ?_
  rintro e w' ⟨rfl, rfl⟩
  have he : Hid ((((lim xs 0 : Int) % 2) == 0) = decide (lim xs 0 % 2 = 0)) := Lib.hid (by rw [Bool.eq_iff_iff]; simp; omega)
  go_wp2
  go_ret
  exact ⟨congrArg (fun x => Ending.returned (.bool x)) he.out, rfl⟩
end Go.Proofs.Ytppbifijgkcpjaa
