/- vernierlaw06.PartsTells, walked. -/
import Derived.Test.YtcgdiodpniiegaaPaLaw
namespace Go.Proofs.Ytcgdiodpniiegaa
open Go.RowKit Go.Shelf
theorem sgn_i (neg : Bool) : (sgn neg : Int) ≤ 9223372036854775808 := by unfold sgn; split <;> omega
set_option maxRecDepth 100000 in
set_option maxHeartbeats 4000000 in
theorem partsTells_calls {a : Nat} {neg : Bool} {w : World} (ha : (a : Int) ≤ 18446744073709551615) :
    Calls Try.prog 3 #[.int .u64 (a : Int), .bool neg] w fun e W' => e = .returned (.bool true) ∧ Below w.heap.size w W' := by
  by_cases hc : fe a = 2047
  · have hcl : 2 ≤ cls a := by unfold cls; rw [if_pos hc]; split <;> omega
    have h1 : (2 : Int) ≤ (cls a : Int) := by omega
    clear hcl
    go_enter Try.func3, Try.ntmps3
    go_wp2_with fail
    refine (class6 ha).mono ?_
    rintro e w1 ⟨rfl, rfl⟩
    go_wp2_with fail
    refine (psplit_inf ha hc).mono ?_
    rintro e w2 ⟨rfl, b2⟩
    go_wp2_with fail
    refine (pclass ha).mono ?_
    rintro e w3 ⟨rfl, b3⟩
    replace b2 := below_both b2 b3
    clear b3
    go_wp2_with fail
    refine (pinf neg _).mono ?_
    rintro e w4 ⟨rfl, b3⟩
    replace b2 := below_both b2 b3
    clear b3
    go_wp2_with fail
    refine (inf6 neg _).mono ?_
    rintro e w5 ⟨rfl, rfl⟩
    go_wp2_with fail
    refine (pzero neg _).mono ?_
    rintro e w6 ⟨rfl, b3⟩
    replace b2 := below_both b2 b3
    clear b3
    go_wp2_with fail
    refine (zero6 neg _).mono ?_
    rintro e w7 ⟨rfl, rfl⟩
    go_wp2_with fail
    refine (palive _).mono ?_
    rintro e w8 ⟨rfl, b3⟩
    replace b2 := below_both b2 b3
    go_wp2
    go_ret
    exact ⟨rfl, b2⟩
  · have hcl : cls a ≤ 1 := cls_fin.2 hc
    have h1 : (cls a : Int) ≤ 1 := by omega
    clear hcl
    go_enter Try.func3, Try.ntmps3
    go_wp2_with fail
    refine (class6 ha).mono ?_
    rintro e w1 ⟨rfl, rfl⟩
    go_wp2_with fail
    refine (psplit_fin ha hc).mono ?_
    rintro e w2 ⟨rfl, b2⟩
    go_wp2_with fail
    refine (split6 ha).mono ?_
    rintro e w2 ⟨rfl, rfl⟩
    go_wp2_with fail
    refine (pclass ha).mono ?_
    rintro e w3 ⟨rfl, b3⟩
    replace b2 := below_both b2 b3
    clear b3
    go_wp2_with fail
    refine (pinf neg _).mono ?_
    rintro e w4 ⟨rfl, b3⟩
    replace b2 := below_both b2 b3
    clear b3
    go_wp2_with fail
    refine (inf6 neg _).mono ?_
    rintro e w5 ⟨rfl, rfl⟩
    go_wp2_with fail
    refine (pzero neg _).mono ?_
    rintro e w6 ⟨rfl, b3⟩
    replace b2 := below_both b2 b3
    clear b3
    go_wp2_with fail
    refine (zero6 neg _).mono ?_
    rintro e w7 ⟨rfl, rfl⟩
    go_wp2_with fail
    refine (palive _).mono ?_
    rintro e w8 ⟨rfl, b3⟩
    replace b2 := below_both b2 b3
    go_wp2
    go_ret
    exact ⟨rfl, b2⟩
end Go.Proofs.Ytcgdiodpniiegaa
