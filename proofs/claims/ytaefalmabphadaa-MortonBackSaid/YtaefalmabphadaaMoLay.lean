/- Layouts: plain lists. -/
import Derived.Test.YtaefalmabphadaaMoTells
namespace Go.Proofs.Ytaefalmabphadaa
/-- a place's tile lies among s times s -/
theorem spr_small {a b k : Nat} (ha : a < 2 ^ k) (hb : b < 2 ^ k) : ∀ n, k ≤ n → spr a b n = spr a b k := by
  intro n
  induction n with
  | zero => intro h; obtain rfl : k = 0 := by omega
            rfl
  | succ n ih =>
    intro h
    by_cases e : k = n + 1
    · rw [e]
    · have hk : k ≤ n := by omega
      have hp : 2 ^ k ≤ 2 ^ n := Nat.pow_le_pow_right (by decide) hk
      show spr a b n + 4 ^ n * pr2 a b n = _
      rw [ih hk]
      unfold pr2
      rw [Nat.div_eq_of_lt (Nat.lt_of_lt_of_le ha hp), Nat.div_eq_of_lt (Nat.lt_of_lt_of_le hb hp)]
      rfl
theorem spr_lt_k {a b k n : Nat} (ha : a < 2 ^ k) (hb : b < 2 ^ k) (hk : k ≤ n) : spr a b n < 2 ^ k * 2 ^ k := by
  rw [spr_small ha hb n hk]
  have := spr_lt a b k
  rwa [show (4 : Nat) ^ k = 2 ^ k * 2 ^ k by rw [← Nat.mul_pow]] at this
theorem plc_lt {i j M t : Nat} (hM : M ≤ 64) (ht : 1 ≤ t) (hi : i < M) (hj : j < M) : plc i j t < sizN M t := by
  obtain ⟨k, k1, k2, k3⟩ := sdn_pow hM ht
  have ha : i / t < 2 ^ k := by rw [Nat.div_lt_iff_lt_mul ht, ← k2]; omega
  have hb : j / t < 2 ^ k := by rw [Nat.div_lt_iff_lt_mul ht, ← k2]; omega
  have h := spr_lt_k (n := 16) ha hb (by omega)
  rw [← k2] at h
  have m1 := Nat.mod_lt i ht
  have m2 := Nat.mod_lt j ht
  unfold plc sizN
  generalize sdn M t * sdn M t = D at *
  generalize spr (i / t) (j / t) 16 = S at *
  generalize i % t = x at *
  generalize j % t = y at *
  have h1 : x * t + y < t * t := by
    have := Nat.mul_le_mul_right t (show x + 1 ≤ t from m1)
    rw [Nat.add_mul, Nat.one_mul] at this
    omega
  have h2 : S * t * t + t * t ≤ D * t * t := by
    have := Nat.mul_le_mul_right t (Nat.mul_le_mul_right t (show S + 1 ≤ D from h))
    rw [Nat.add_mul, Nat.add_mul, Nat.one_mul] at this
    exact this
  omega
/-- the first k words put into their places -/
def stw (N C t : Nat) (xs : List Nat) : Nat → List Nat
  | 0 => List.replicate N 0
  | k + 1 => (stw N C t xs k).set (plc (k / C) (k % C) t) (lim xs k)
theorem stw_length (N C t : Nat) (xs : List Nat) (k : Nat) : (stw N C t xs k).length = N := by
  induction k with
  | zero => simp [stw]
  | succ k ih => simp [stw, ih]
theorem lim_rep (N p : Nat) : lim (List.replicate N 0) p = 0 := by
  unfold lim
  rw [List.getElem?_replicate]
  split <;> rfl
/-- what stands at a place that is none's -/
theorem stw_none {N C t p : Nat} (xs : List Nat) {k : Nat} (h : ∀ m, m < k → plc (m / C) (m % C) t ≠ p) : lim (stw N C t xs k) p = 0 := by
  induction k with
  | zero => exact lim_rep N p
  | succ k ih =>
    show lim ((stw N C t xs k).set _ _) p = 0
    rw [lim_set, if_neg (fun q => h k (by omega) q.1.symm)]
    exact ih fun m hm => h m (by omega)
/-- unlike places of a matrix of at most 64 columns are unlike -/
theorem place_ne {R C t m k : Nat} (ht : 1 ≤ t) (hR : R ≤ 64) (hC : C ≤ 64) (hm : m < R * C) (hk : k < R * C) (hne : m ≠ k) : plc (m / C) (m % C) t ≠ plc (k / C) (k % C) t := by
  have h0 : 0 < C := by
    rcases Nat.eq_zero_or_pos C with e | e
    · subst e; simp at hm
    · exact e
  have a1 : m / C < R := by rwa [Nat.div_lt_iff_lt_mul h0]
  have a2 : k / C < R := by rwa [Nat.div_lt_iff_lt_mul h0]
  have a3 := Nat.mod_lt m h0
  have a4 := Nat.mod_lt k h0
  intro h
  obtain ⟨e1, e2⟩ := plc_inj (by omega) (by omega) (by omega) (by omega) (by omega) h
  apply hne
  rw [← Nat.div_add_mod m C, ← Nat.div_add_mod k C, e1, e2]
theorem stw_at {R C t N : Nat} (xs : List Nat) (ht : 1 ≤ t) (hR : R ≤ 64) (hC : C ≤ 64) (hN : ∀ m, m < R * C → plc (m / C) (m % C) t < N) {k : Nat} (hk : k ≤ R * C) : ∀ m, m < k → lim (stw N C t xs k) (plc (m / C) (m % C) t) = lim xs m := by
  induction k with
  | zero => intro m hm; omega
  | succ k ih =>
    intro m hm
    show lim ((stw N C t xs k).set _ _) _ = _
    rw [lim_set, stw_length]
    by_cases e : m = k
    · subst e
      rw [if_pos ⟨rfl, hN m (by omega)⟩]
    · rw [if_neg (fun q => place_ne ht hR hC (by omega) (by omega) e q.1)]
      exact ih (by omega) m (by omega)
/-- how many words are not 0 -/
def cnt (xs : List Nat) (k : Nat) : Nat := (xs.take k).countP fun x => decide (x ≠ 0)
theorem cnt_zero (xs : List Nat) : cnt xs 0 = 0 := rfl
theorem cnt_succ {xs : List Nat} {k : Nat} (h : k < xs.length) : cnt xs (k + 1) = cnt xs k + if lim xs k = 0 then 0 else 1 := by
  unfold cnt
  rw [List.take_succ_eq_append_getElem h, List.countP_append]
  have e : lim xs k = xs[k] := by unfold lim; rw [List.getElem?_eq_getElem h]; rfl
  rw [e]
  by_cases h0 : xs[k] = 0
  · simp [h0]
  · simp [h0]
theorem countP_set {xs : List Nat} {p v : Nat} (hp : p < xs.length) (h0 : lim xs p = 0) : (xs.set p v).countP (fun x => decide (x ≠ 0)) = xs.countP (fun x => decide (x ≠ 0)) + if v = 0 then 0 else 1 := by
  have e : lim xs p = xs[p] := by unfold lim; rw [List.getElem?_eq_getElem hp]; rfl
  have e2 : xs = xs.take p ++ xs[p] :: xs.drop (p + 1) := by rw [List.getElem_cons_drop, List.take_append_drop]
  rw [List.set_eq_take_append_cons_drop, if_pos hp, List.countP_append, List.countP_cons]
  conv => rhs; rw [e2, List.countP_append, List.countP_cons]
  rw [← e, h0]
  by_cases hv : v = 0
  · simp [hv]
  · simp [hv]; omega
/-- as many as the matrix has -/
theorem stw_count {R C t N : Nat} {xs : List Nat} (ht : 1 ≤ t) (hR : R ≤ 64) (hC : C ≤ 64) (hN : ∀ m, m < R * C → plc (m / C) (m % C) t < N) (hl : xs.length = R * C) {k : Nat} (hk : k ≤ R * C) : (stw N C t xs k).countP (fun x => decide (x ≠ 0)) = cnt xs k := by
  induction k with
  | zero => simp [stw, cnt]
  | succ k ih =>
    show ((stw N C t xs k).set _ _).countP _ = _
    rw [countP_set (by rw [stw_length]; exact hN k (by omega)) (stw_none xs fun m hm => place_ne ht hR hC (by omega) (by omega) (by omega)), ih (by omega), cnt_succ (by omega)]
/-- all words in their places -/
def layW (R C t : Nat) (xs : List Nat) : List Nat := stw (sizN (max R C) t) C t xs (R * C)
theorem layW_at {R C t i j : Nat} (xs : List Nat) (ht : 1 ≤ t) (hR : R ≤ 64) (hC : C ≤ 64) (hi : i < R) (hj : j < C) : lim (layW R C t xs) (plc i j t) = lim xs (i * C + j) := by
  have h0 : 0 < C := by omega
  have hlt : i * C + j < R * C := by
    have := Nat.mul_le_mul_right C (show i + 1 ≤ R from hi)
    rw [Nat.add_mul, Nat.one_mul] at this
    omega
  have e1 : (i * C + j) / C = i := by rw [Nat.mul_comm, Nat.mul_add_div h0, Nat.div_eq_of_lt hj, Nat.add_zero]
  have e2 : (i * C + j) % C = j := by rw [Nat.mul_comm, Nat.mul_add_mod, Nat.mod_eq_of_lt hj]
  have h := stw_at (N := sizN (max R C) t) xs ht hR hC (fun m hm => by
    have a1 : m / C < R := by rwa [Nat.div_lt_iff_lt_mul h0]
    have a3 := Nat.mod_lt m h0
    exact plc_lt (by omega) ht (by omega) (by omega)) (Nat.le_refl _) (i * C + j) hlt
  rw [e1, e2] at h
  exact h
/-- there and back -/
theorem layW_back {R C t : Nat} {xs : List Nat} (ht : 1 ≤ t) (hR : R ≤ 64) (hC : C ≤ 64) (hl : xs.length = R * C) : tab R C (fun i j => lim (layW R C t xs) (plc i j t)) = xs := by
  rw [tab_congr (g' := fun i j => lim xs (i * C + j)) fun i j hi hj => layW_at xs ht hR hC hi hj]
  refine ext_lim (by rw [tab_length, hl]) fun k hk => ?_
  rw [tab_length] at hk
  have h0 : 0 < C := by
    rcases Nat.eq_zero_or_pos C with e | e
    · subst e; simp at hk
    · exact e
  have e : k = k / C * C + k % C := by rw [Nat.mul_comm]; exact (Nat.div_add_mod k C).symm
  have h := tab_lim (R := R) (C := C) (i := k / C) (j := k % C) (fun i j => lim xs (i * C + j)) (by rwa [Nat.div_lt_iff_lt_mul h0]) (Nat.mod_lt _ h0)
  rw [← e] at h
  exact h
theorem layW_count {R C t : Nat} {xs : List Nat} (ht : 1 ≤ t) (hR : R ≤ 64) (hC : C ≤ 64) (hl : xs.length = R * C) : cnt (layW R C t xs) (layW R C t xs).length = cnt xs xs.length := by
  unfold cnt
  rw [List.take_of_length_le (Nat.le_refl _), hl]
  show (stw _ _ _ _ _).countP _ = cnt xs (R * C)
  refine stw_count ht hR hC (fun m hm => ?_) hl (Nat.le_refl _)
  have h0 : 0 < C := by
    rcases Nat.eq_zero_or_pos C with e | e
    · subst e; simp at hm
    · exact e
  have a1 : m / C < R := by rwa [Nat.div_lt_iff_lt_mul h0]
  have a3 := Nat.mod_lt m h0
  exact plc_lt (by omega) ht (by omega) (by omega)
end Go.Proofs.Ytaefalmabphadaa
