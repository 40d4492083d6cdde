/- The law ArenaApart, walked. -/
import Derived.Test.YtgppbimbampenaaArTake
import Derived.Test.YtgppbimbampenaaVwApart
import Derived.Deep.RegionHeld3
namespace Go.Proofs.Ytgppbimbampenaa
open Go.RowKit Go.Shelf
theorem ar_takeZ {b g s n u h : Nat} {ws : List Nat} {W : World} (A : AN b W g s n u h ws) {R C U : Int} {r c P H : Nat} (hR : R = (r : Int)) (hC : C = (c : Int)) (hU : U = (u : Int)) (hr : r ≤ 64) (hc : c ≤ 64) (hP : r * c = P) (ho : u + P ≤ n) {u' : Nat} (hu' : u' = u + P) (hH : H = max h (u + P)) :
    Calls Try.prog 34 #[.pointer (some ⟨g, 0, none⟩), .int .i64 R, .int .i64 C] W fun e W' => e = .returned (.tuple #[.agg #[.int .i64 R, .int .i64 C, .int .i64 C, .int .i64 U], .int .i64 0]) ∧ AN b W' g s n u' H (clrL ws u P) ∧ Kp g s W W' ∧ Below b W W' := by
  subst hR; subst hC; subst hU; subst hu'; subst hH
  exact ar_take A hr hc hP ho
theorem l18_alive {w : World} : Calls Try.prog 32 #[] w fun e W' => e = .returned (.bool true) ∧ Below w.heap.size w W' := by
  go_enter Try.func32, Try.ntmps32
  go_wp2_with fail
  refine (ar_new (n := 4) rfl (by decide)).mono ?_
  rintro e w1 ⟨g, s, rfl, A, b1⟩
  have hT := ar_takeZ A (R := 2) (C := 2) (U := 0) (r := 2) (c := 2) (P := 4) (H := 4) (u' := 4) rfl rfl rfl (by decide) (by decide) rfl (by decide) rfl rfl
  go_wp2_with fail
  refine hT.mono ?_
  rintro e w2 ⟨rfl, A2, K, D⟩
  obtain ⟨B3, G⟩ := mbox w2 #[.int .i64 2, .int .i64 2, .int .i64 2, .int .i64 0] 23 _ rfl
  have A3 := A2.behind B3
  have c2 := G.cell (i := 2) rfl
  have hL := ar_left A3
  have hH := Lib.hid (fun W (h : Below _ _ W) => ar_high (A3.behind (W' := W) h))
  have bb : Below w.heap.size w w1 := b1
  have hw : w.heap.size ≤ w2.heap.size := Nat.le_trans A2.bs (Nat.le_of_lt A2.row.lt)
  clear A A2 hT
  go_wp2_with fail
  refine hL.mono ?_
  rintro e w4 ⟨rfl, b4⟩
  go_wp2_with fail
  refine (hH.out _ b4).mono ?_
  rintro e w5 ⟨rfl, rfl⟩
  go_wp2
  go_ret
  exact ⟨rfl, (bb.trans D).trans ((below_both B3 b4).mono hw)⟩
theorem ap_places {m n k P : Nat} (hP : m * n = P) : apB (plZ (m : Int) (n : Int) (n : Int) 0) (plZ (n : Int) (k : Int) (k : Int) (P : Int)) = true := by
  rw [apB_iff]
  intro i hi j hj
  unfold plZ at hi hj ⊢
  cases h1 : mayW (m : Int) (n : Int) (n : Int) 0 1048576
  · rw [h1] at hi; simp at hi
  · cases h2 : mayW (n : Int) (k : Int) (k : Int) (P : Int) 1048576
    · rw [h2] at hj; simp at hj
    · rw [h1] at hi
      rw [h2] at hj
      simp only [if_true, Int.toNat_natCast] at hi hj ⊢
      rw [preZ_length] at hi hj
      rw [preZ_at _ hi, preZ_at _ hj]
      unfold plv
      have e1 : ((i / n : Nat) : Int) * (n : Int) + ((i % n : Nat) : Int) = (i : Int) := by
        rw [← Int.natCast_mul, ← Int.natCast_add, Nat.div_add_mod' i n]
      have e2 : 0 ≤ ((j / k : Nat) : Int) * (k : Int) := by rw [← Int.natCast_mul]; omega
      omega
theorem AN.word {b g s n u h j : Nat} {ws : List Nat} {W : World} (A : AN b W g s n u h ws) (z : Nat) : AN b (W.setCell ⟨s, j, none⟩ (.int .u64 (z : Int))) g s n u h (ws.set j z) :=
  ⟨A.box.put A.ne _, A.row.set j z, by rw [List.length_set]; exact A.len, A.ne, A.bg, A.bs, A.un, A.hn, A.top⟩
end Go.Proofs.Ytgppbimbampenaa
