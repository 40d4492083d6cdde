/- vernierlaw21: product. -/
import Derived.Test.YtdcebkhdnhdejaaGeOne
import Derived.Deep.RegionHeld3
namespace Go.Proofs.Ytdcebkhdnhdejaa
open Go.RowKit Go.Shelf
/-- append(xs, x) in a region that draws its order -/
theorem step_app {ops : Array Oper} {o : Oper} {a : Act} {K : Act → World → Prop} {Q : Exit → Act → World → Prop} {E : Prop} {W : World} (hgd : o.guard = none) (s x : Operand)
    (ho : o.op = .call { callee := .builtin .append, args := #[s, x], argTypes := #[22, 22] }) {b : Nat} {v : Value} {xs : List Nat} {z : Nat} {g : Nat} (hs : a.eval s = v) (hx : a.eval x = .slice (some ⟨g, 0, none⟩) 1 1)
    (hc : W.cell? ⟨g, 0, none⟩ = some (.int .u64 (z : Int))) (hown : OwnK .u64 32 b W v (zn xs)) (hlen : xs.length + 1 ≤ 17592186044416) (hb : b ≤ W.heap.size)
    (h : ∀ g' cap w', OwnK .u64 32 b w' (.slice (some ⟨g', 0, none⟩) (xs.length + 1) cap) (zn (xs ++ [z])) → W.grownBy w' v.ownBlock → (v.ownBlock = some g' ∨ g' = W.heap.size) → g' < w'.heap.size → K (a.put o.dst (.slice (some ⟨g', 0, none⟩) (xs.length + 1) cap)) w') :
    if Region.wanted o (yielded ops a.tmps) = true then Oper.wp Try.prog o a W K Q else E := by
  obtain ⟨i0, hi, hz0, hz1, hz2⟩ := info_parts info_u64
  have hl := valsK_length .u64 (zn xs)
  have hl2 := zn_length xs
  have hown2 : W.ownsRow b 32 1 v xs.length (valsK .u64 (zn xs)) := by
    have h1 := hown
    unfold OwnK at h1
    rwa [hl2] at h1
  refine step_append_lies W hgd s x 22 ho b 32 i0 (.int .u64 0) 1 8 Try.underlying22 hi hz0 hz1 hz2 rfl (by decide) v xs.length (valsK .u64 (zn xs)) hs hown2 ⟨g, 0, none⟩ 1 1 [.int .u64 (z : Int)] hx rfl ?_ ?_ (by decide) (by simp only [maxLen]; omega) (by omega) hb _ rfl ?_
  · intro j u hu
    rcases j with _ | j
    · simp only [List.getElem?_cons_zero, Option.some.injEq] at hu
      subst hu
      exact hc
    · simp at hu
  · intro u hu
    simp only [List.mem_cons, List.not_mem_nil, or_false] at hu
    subst hu; rfl
  · intro g' cap w' h1 h2 h3 h4
    refine h g' cap w' ?_ h2 h3 h4
    unfold OwnK
    rw [zn_length, List.length_append, List.length_cons, List.length_nil, zn_snoc, ← valsK_snoc]
    exact h1
theorem Ms.drew' {W : World} {g : Nat} {cs : Array Value} {t : TypeId} (h : Ms W g cs t) : Ms W.drew g cs t := h
theorem cell_new1d (W : World) (u : Value) (t : TypeId) : (W.alloc (.cells #[u] t)).drew.cell? ⟨W.heap.size, 0, none⟩ = some u := cell_new1 W u t
theorem ms_new (W : World) (cs : Array Value) (t : TypeId) : Ms (W.alloc (.cells cs t)) W.heap.size cs t := World.alloc_heap_new W _
theorem ms_two (W : World) (o : Obj) (cs : Array Value) (t : TypeId) : Ms ((W.alloc o).alloc (.cells cs t)) (W.heap.size + 1) cs t := by
  have h := ms_new (W.alloc o) cs t
  rwa [World.size_alloc] at h
section
variable {w W W' : World} {p r : Value} {P R : List Nat}
theorem step_duo {ops : Array Oper} {o : Oper} {a : Act} {K : Act → World → Prop} {Q : Exit → Act → World → Prop} {E : Prop} (hgd : o.guard = none) (s x : Operand)
    (ho : o.op = .call { callee := .builtin .append, args := #[s, x], argTypes := #[22, 22] }) {z : Nat} {g : Nat} (hs : a.eval s = p) (hx : a.eval x = .slice (some ⟨g, 0, none⟩) 1 1)
    (hc : W.cell? ⟨g, 0, none⟩ = some (.int .u64 (z : Int))) (hT : Duo w W p r P R) (hlen : P.length + 1 ≤ 17592186044416)
    (h : ∀ p' w', Duo w w' p' r (P ++ [z]) R → (∀ g cs t, p.ownBlock ≠ some g → Ms W g cs t → Ms w' g cs t) → K (a.put o.dst p') w') :
    if Region.wanted o (yielded ops a.tmps) = true then Oper.wp Try.prog o a W K Q else E := by
  obtain ⟨h1, h2, h3, h4⟩ := hT
  refine step_app hgd s x ho hs hx hc h2 hlen h1.size ?_
  intro g' cap w' k1 k2 k3 k4
  refine h _ w' ⟨h1.trans (below_grown k2 h1.size fun q hq => (World.ownsRow.lt h2 q hq).1), k1, h3.grew k2 (fun q hq e => h4 q e hq), ?_⟩ (fun g cs t hne hM => (k2.block g hM.lt (fun e => hne e.symm)).trans hM)
  intro q hq e
  have hq2 : g' = q := by simpa [Value.ownBlock] using hq
  subst hq2
  rcases k3 with k3 | k3
  · exact h4 _ k3 e
  · have := (World.ownsRow.lt h3 _ e).2
    omega
theorem step_duo' {ops : Array Oper} {o : Oper} {a : Act} {K : Act → World → Prop} {Q : Exit → Act → World → Prop} {E : Prop} (hgd : o.guard = none) (s x : Operand)
    (ho : o.op = .call { callee := .builtin .append, args := #[s, x], argTypes := #[22, 22] }) {z : Nat} {g : Nat} (hs : a.eval s = r) (hx : a.eval x = .slice (some ⟨g, 0, none⟩) 1 1)
    (hc : W.cell? ⟨g, 0, none⟩ = some (.int .u64 (z : Int))) (hT : Duo w W p r P R) (hlen : R.length + 1 ≤ 17592186044416)
    (h : ∀ r' w', Duo w w' p r' P (R ++ [z]) → (∀ g cs t, r.ownBlock ≠ some g → Ms W g cs t → Ms w' g cs t) → K (a.put o.dst r') w') :
    if Region.wanted o (yielded ops a.tmps) = true then Oper.wp Try.prog o a W K Q else E :=
  step_duo hgd s x ho hs hx hc hT.flip hlen fun r' w' h1 h2 => h r' w' h1.flip h2
end
theorem But.low {d : Nat} {w W W' : World} (h : But d w W) (hb : Below w.heap.size W W') : But d w W' := ⟨Nat.le_trans h.1 hb.size, fun g hg hne => (hb.block g hg).trans (h.2 g hg hne)⟩
theorem chk_rowV {n : Nat} {f : Nat → Nat} (hn : n ≤ 64) (h : ∀ l, l < n → cls (f l) ≤ 1) : chkV (rowV n f) = 0 :=
  chkV_ok.2 ⟨by rw [rowV_length]; exact hn, finB_iff.2 fun j hj => by
    rw [rowV_length] at hj
    rw [rowV_lim _ hj]
    exact h j hj⟩
theorem prodG_at {K C i j : Nat} (xs ys : List Nat) (hj : j < C) : prodG K C xs ys (i * C + j) = dotV (rowV K fun l => lim xs (i * K + l)) (rowV K fun l => lim ys (l * C + j)) K := by
  have e1 : (i * C + j) / C = i := by rw [Nat.mul_comm, Nat.mul_add_div (by omega), Nat.div_eq_of_lt hj, Nat.add_zero]
  have e2 : (i * C + j) % C = j := by rw [Nat.mul_comm, Nat.mul_add_mod, Nat.mod_eq_of_lt hj]
  unfold prodG
  rw [e1, e2]
set_option maxRecDepth 100000 in
set_option maxHeartbeats 16000000 in
theorem l21_product {R K C : Nat} {a b : Option Addr} {m n cap cap' : Nat} {xs ys : List Nat} {w : World} (hA : Arg w (.slice a m cap) xs) (hB : Arg w (.slice b n cap') ys) (hx : Low 18446744073709551616 xs) (hy : Low 18446744073709551616 ys)
    (h1 : finM R K m xs = 0) (h2 : finM K C n ys = 0) :
    Calls Try.prog 39 #[.agg #[.int .i64 (R : Int), .int .i64 (K : Int), .slice a m cap], .agg #[.int .i64 (K : Int), .int .i64 (C : Int), .slice b n cap']] w fun e W' => ∃ R2 C2 b2 n2 c2, e = .returned (.tuple #[.agg #[.int .i64 R2, .int .i64 C2, .slice b2 n2 c2], .bool (tellV (prodM R K C xs ys) 0 == 0)]) ∧ New w.heap.size W' (.slice b2 n2 c2) (if tellV (prodM R K C xs ys) 0 = 0 then prodM R K C xs ys else []) ∧ (tellV (prodM R K C xs ys) 0 = 0 → R2 = R ∧ C2 = C) ∧ Below w.heap.size w W' := by
  have hpos : 0 < w.heap.size := by obtain ⟨S, hS, _⟩ := hA; omega
  have hmx : m = xs.length := by
    obtain ⟨a', c', e⟩ := hA.slice
    simp only [Value.slice.injEq] at e
    omega
  have hny : n = ys.length := by
    obtain ⟨a', c', e⟩ := hB.slice
    simp only [Value.slice.injEq] at e
    omega
  have hm := (finM_ok h1).1
  have hn := (finM_ok h2).1
  obtain ⟨q1, q2, q3, q4, q5⟩ := mayM_iff.1 hm
  obtain ⟨_, _, q6, q7, q8⟩ := mayM_iff.1 hn
  have hmn : m = R * K := by rw [← Int.natCast_mul] at q5; omega
  have hnn : n = K * C := by rw [← Int.natCast_mul] at q8; omega
  have hfx : finB xs xs.length = true := by
    rw [hmx] at h1 hm
    rw [finM_may hm] at h1
    cases hf : finB xs xs.length
    · rw [hf] at h1; exact absurd h1 (by decide)
    · rfl
  have hfy : finB ys ys.length = true := by
    rw [hny] at h2 hn
    rw [finM_may hn] at h2
    cases hf : finB ys ys.length
    · rw [hf] at h2; exact absurd h2 (by decide)
    · rfl
  have hrc : R * C ≤ 4096 := by have := Nat.mul_le_mul (show R ≤ 64 by omega) (show C ≤ 64 by omega); omega
  have hrk : R * K ≤ 4096 := by have := Nat.mul_le_mul (show R ≤ 64 by omega) (show K ≤ 64 by omega); omega
  have hkc : K * C ≤ 4096 := by have := Nat.mul_le_mul (show K ≤ 64 by omega) (show C ≤ 64 by omega); omega
  have hR64 : R ≤ 64 := by omega
  have hK64 : K ≤ 64 := by omega
  have hC64 : C ≤ 64 := by omega
  have HIX : Hid (∀ i k, i < R → k < K → i * K + k < m) := Lib.hid (fun i k hi hk => by have := place_lt (R := K) (C := R) hk hi; rw [hmn, Nat.mul_comm R K]; exact this)
  have HIY : Hid (∀ k j, k < K → j < C → k * C + j < n) := Lib.hid (fun k j hk hj => by have := place_lt (R := C) (C := K) hj hk; rw [hnn, Nat.mul_comm K C]; exact this)
  have HIC : Hid (∀ i j, i < R → j < C → i * C + j < R * C) := Lib.hid (fun i j hi hj => by have := place_lt (R := C) (C := R) hj hi; rw [Nat.mul_comm R C]; exact this)
  obtain ⟨PX, hPX⟩ : ∃ PX : Nat → Nat → List Nat, PX = fun i k => rowV k fun l => lim xs (i * K + l) := ⟨_, rfl⟩
  obtain ⟨PY, hPY⟩ : ∃ PY : Nat → Nat → List Nat, PY = fun j k => rowV k fun l => lim ys (l * C + j) := ⟨_, rfl⟩
  have HP0 : Hid (∀ i, PX i 0 = []) := Lib.hid (fun i => by rw [hPX]; rfl)
  have HQ0 : Hid (∀ j, PY j 0 = []) := Lib.hid (fun i => by rw [hPY]; rfl)
  have HPS : Hid (∀ i k, PX i (k + 1) = PX i k ++ [lim xs (i * K + k)]) := Lib.hid (fun i k => by rw [hPX]; exact rowV_succ _ _)
  have HQS : Hid (∀ j k, PY j (k + 1) = PY j k ++ [lim ys (k * C + j)]) := Lib.hid (fun i k => by rw [hPY]; exact rowV_succ _ _)
  have HPL : Hid (∀ i k, (PX i k).length = k) := Lib.hid (fun i k => by rw [hPX]; exact rowV_length _ _)
  have HQL : Hid (∀ i k, (PY i k).length = k) := Lib.hid (fun i k => by rw [hPY]; exact rowV_length _ _)
  have HPW : Hid (∀ i k, Low 18446744073709551616 (PX i k)) := Lib.hid (fun i k => by rw [hPX]; exact rowV_low fun l _ => by have := lim_lt hx (by decide : 0 < 18446744073709551616) (i * K + l); omega)
  have HQW : Hid (∀ i k, Low 18446744073709551616 (PY i k)) := Lib.hid (fun i k => by rw [hPY]; exact rowV_low fun l _ => by have := lim_lt hy (by decide : 0 < 18446744073709551616) (l * C + i); omega)
  have HDE : Hid (∀ i j, i < R → j < C → dotE (PX i K) (PY j K) = (if cls (prodG K C xs ys (i * C + j)) ≤ 1 then 0 else 13) ∧ (cls (prodG K C xs ys (i * C + j)) ≤ 1 → dotR (PX i K) (PY j K) = prodG K C xs ys (i * C + j))) := Lib.hid (fun i j hi hj => by
    have hd := dot_fin (K := K) (chk_rowV (f := fun l => lim xs (i * K + l)) hK64 (fun l hl => finB_iff.1 hfx _ (by rw [← hmx]; exact HIX.out i l hi hl))) (chk_rowV (f := fun l => lim ys (l * C + j)) hK64 (fun l hl => finB_iff.1 hfy _ (by rw [← hny]; exact HIY.out l j hl hj))) (rowV_length _ _) (rowV_length _ _)
    rw [← prodG_at xs ys hj] at hd
    rw [hPX, hPY]
    exact hd)
  obtain ⟨S, a', c'', hS, e, hcap, HX⟩ := hA.opened
  simp only [Value.slice.injEq] at e
  obtain ⟨rfl, -, rfl⟩ := e
  obtain ⟨T, a', c'', hT, e, hcapT, HY⟩ := hB.opened
  simp only [Value.slice.injEq] at e
  obtain ⟨rfl, -, rfl⟩ := e
  rw [← hmx] at HX
  rw [← hny] at HY
  obtain ⟨E, hE⟩ : ∃ E, E = tellV (prodM R K C xs ys) 0 := ⟨_, rfl⟩
  rw [← hE]
  obtain ⟨Z, hZ⟩ : ∃ Z, Z = if E = 0 then prodM R K C xs ys else [] := ⟨_, rfl⟩
  rw [← hZ]
  have HZD := Lib.hid hZ
  have HPR : Hid (rowV (R * C) (prodG K C xs ys) = prodM R K C xs ys) := Lib.hid rfl
  have HFB : Hid ((∀ j, j < R * C → cls (prodG K C xs ys j) ≤ 1) → E = 0) := Lib.hid (fun h => by
    rw [hE, tellV_yes, finB_iff.2 (fun j hj => by
      unfold prodM at hj ⊢
      rw [rowV_length] at hj
      rw [rowV_lim _ hj]; exact h j hj), if_pos rfl])
  have HFN : Hid (∀ j, j < R * C → ¬ cls (prodG K C xs ys j) ≤ 1 → E = 13) := Lib.hid (fun j hj h => by
    rw [hE, tellV_yes, finB_not (j := j) (by unfold prodM; rw [rowV_length]; exact hj) (by unfold prodM; rw [rowV_lim _ hj]; exact (by omega : 2 ≤ cls (prodG K C xs ys j))), if_neg (by decide)])
  obtain ⟨G, hG⟩ : ∃ G, G = prodG K C xs ys := ⟨_, rfl⟩
  rw [← hG] at HDE HFB HFN HPR
  have HPM := Lib.hid (show Hid (Z = if E = 0 then rowV (R * C) G else []) from Lib.hid (by rw [hZ, HPR.out]))
  obtain ⟨b1, G1, G2, hw1⟩ := vboxm w #[.int .i64 (R : Int), .int .i64 (K : Int), .slice a m cap] #[.int .i64 (K : Int), .int .i64 (C : Int), .slice b n cap'] 24 24 _ rfl
  obtain ⟨k2, G3, G4, hw3⟩ := vboxm ((w.alloc (.cells #[.int .i64 (R : Int), .int .i64 (K : Int), .slice a m cap] 24)).alloc (.cells #[.int .i64 (K : Int), .int .i64 (C : Int), .slice b n cap'] 24)) #[.int .i64 0, .int .i64 0, .slice none 0 0] #[.int .i64 (R : Int), .int .i64 (C : Int), .slice none 0 0] 24 24 _ rfl
  simp only [World.size_alloc] at G3 G4 hw3
  replace G1 := G1.behind k2
  replace G2 := G2.behind k2
  have B := below_both b1 k2
  have hR63 : (R : Int) ≤ 64 := by omega
  have hK63 : (K : Int) ≤ 64 := by omega
  have hC63 : (C : Int) ≤ 64 := by omega
  have hm4 : (m : Int) ≤ 4096 := by omega
  have hn4 : (n : Int) ≤ 4096 := by omega
  have HRC := Lib.hid hrc
  clear b1 k2 hw1 hA hB hx hy h1 h2 hm hn q1 q2 q3 q4 q5 q6 q7 q8 hmn hnn hfx hfy hrk hkc hrc hE hZ hmx hny hcap hcapT hPX hPY hG HPR HZD
  generalize prodM R K C xs ys = pm at *
  have c0 := G1.cell (i := 0) rfl
  have c1 := G1.cell (i := 1) rfl
  have c2 := G1.cell (i := 2) rfl
  have d0 := G2.cell (i := 0) rfl
  have d1 := G2.cell (i := 1) rfl
  have d2 := G2.cell (i := 2) rfl
  go_enter Try.func39, Try.ntmps39
  go_wp2_with fail
  generalize hW6 : (((w.alloc (.cells #[.int .i64 (R : Int), .int .i64 (K : Int), .slice a m cap] 24)).alloc (.cells #[.int .i64 (K : Int), .int .i64 (C : Int), .slice b n cap'] 24)).alloc (.cells #[.int .i64 0, .int .i64 0, .slice none 0 0] 24)).alloc (.cells #[.int .i64 (R : Int), .int .i64 (C : Int), .slice none 0 0] 24) = W6 at *
  clear hW6 c0 c1 c2 d0 d1 d2 hw3
  have hw3 := G4.lt
  have HG1 := Lib.hid G1
  have HG2 := Lib.hid G2
  have HG3 := Lib.hid G3
  have HSZ : Hid (w.heap.size + 1 + 1 + 1 < W6.heap.size ∧ S < w.heap.size ∧ T < w.heap.size) := Lib.hid ⟨hw3, hS, hT⟩
  have HB6 := Lib.hid B
  have HNL := Lib.hid (OwnK.nil .u64 32 W6 W6.heap.size)
  have hG4 := G4
  clear G1 G2 G3 G4 B hw3 hS hT
  go_loopw [7] (fun iv wr => ∃ (i : Nat) (d : Value), i ≤ R ∧ iv = .int .i64 i ∧ Ms wr (w.heap.size + 1 + 1 + 1) #[.int .i64 (R : Int), .int .i64 (C : Int), d] 24 ∧ OwnK .u64 32 W6.heap.size wr d (zn (rowV (i * C) G)) ∧ But (w.heap.size + 1 + 1 + 1) W6 wr ∧ Below w.heap.size w wr ∧ Hid (∀ q, q < i * C → cls (G q) ≤ 1)) (fun iv _ => R - (intOf iv).toNat)
  case atStart => exact ⟨0, .slice none 0 0, Nat.zero_le _, rfl, hG4, by rw [Nat.zero_mul]; exact HNL.out, But.refl _ _, HB6.out, Lib.hid (fun q h => by rw [Nat.zero_mul] at h; exact absurd h (Nat.not_lt_zero _))⟩
  case round =>
    obtain ⟨i, d, hi, rfl, hM, ho, hU, hB, HQ⟩ := hrel
    have hM1 := hU.ms HG1.out (by omega)
    have c0 : wr.cell? ⟨w.heap.size, 0, none⟩ = some (.int .i64 (R : Int)) := hM1.cell (i := 0) rfl
    by_cases hlt : i < R
    · clear hM1
      go_wp2
      have ho1 : OwnK .u64 32 W6.heap.size wr d (zn (rowV (i * C + 0) G)) := ho
      have HQ1 : Hid (∀ q, q < i * C + 0 → cls (G q) ≤ 1) := HQ
      obtain ⟨wo, rfl⟩ : ∃ wo, wo = wr := ⟨_, rfl⟩
      obtain ⟨dz, rfl⟩ : ∃ dz, dz = d := ⟨_, rfl⟩
      have hM0 := hM
      have hU0 := hU
      have hB0 := hB
      clear ho HQ hM hU hB c0
      go_loopw [8] (fun jv wx => ∃ (j : Nat) (d : Value), j ≤ C ∧ jv = .int .i64 j ∧ Ms wx (w.heap.size + 1 + 1 + 1) #[.int .i64 (R : Int), .int .i64 (C : Int), d] 24 ∧ OwnK .u64 32 W6.heap.size wx d (zn (rowV (i * C + j) G)) ∧ But (w.heap.size + 1 + 1 + 1) W6 wx ∧ Below w.heap.size w wx ∧ Hid (∀ q, q < i * C + j → cls (G q) ≤ 1)) (fun jv _ => C - (intOf jv).toNat)
      case atStart => exact ⟨0, dz, Nat.zero_le _, rfl, hM0, ho1, hU0, hB0, HQ1⟩
      case round =>
        obtain ⟨j, d, hj, rfl, hM, ho, hU, hB, HQ⟩ := hrel
        have hM2 := hU.ms HG2.out (by omega)
        have d1 : wr.cell? ⟨w.heap.size + 1, 1, none⟩ = some (.int .i64 (C : Int)) := hM2.cell (i := 1) rfl
        by_cases hjl : j < C
        · have hM1 := hU.ms HG1.out (by omega)
          have hG1x := Lib.hid hM1
          have hG2x := Lib.hid hM2
          clear hM1 hM2
          go_wp2
          obtain ⟨wj, rfl⟩ : ∃ wj, wj = wr := ⟨_, rfl⟩
          have hBj := hB
          have hMj := hM
          have hoj := ho
          have hUj := hU
          clear hB hM ho hU d1
          go_loopw [9, 10, 11] (fun p r kv wx => ∃ k : Nat, k ≤ K ∧ kv = .int .i64 k ∧ Duo wj wx p r (PX i k) (PY j k)) (fun _ _ kv _ => K - (intOf kv).toNat)
          case atStart => exact ⟨0, Nat.zero_le _, rfl, by rw [HP0.out, HQ0.out]; exact Duo.nil _⟩
          case round =>
            obtain ⟨k, hk, rfl, hD⟩ := hrel
            have c1 : wr.cell? ⟨w.heap.size, 1, none⟩ = some (.int .i64 (K : Int)) := (hG1x.out.behind hD.bel).cell (i := 1) rfl
            by_cases hkl : k < K
            · have hP := HIX.out i k hlt hkl
              have hQ := HIY.out k j hkl hjl
              obtain ⟨oa, rfl, ka⟩ := HX.out wj hBj (i * K + k) hP
              obtain ⟨ob, rfl, kb⟩ := HY.out wj hBj (k * C + j) hQ
              obtain ⟨e1, e2⟩ := wplace (i := i) (C := K) (j := k) (by omega) hK64 (by omega)
              obtain ⟨e3, e4⟩ := wplace (i := k) (C := C) (j := j) (by omega) hC64 (by omega)
              have HS1 := Lib.hid (HPS.out i k)
              have HS2 := Lib.hid (HQS.out j k)
              have hl1 : (PX i k).length + 1 ≤ 17592186044416 := by rw [HPL.out]; omega
              have hl2 : (PY j k).length + 1 ≤ 17592186044416 := by rw [HQL.out]; omega
              generalize hA1 : i * K = U1 at *
              generalize hA2 : k * C = U2 at *
              generalize hA3 : U1 + k = V1 at *
              generalize hA4 : U2 + j = V2 at *
              have hV1 : (V1 : Int) < (m : Int) := by omega
              have hV2 : (V2 : Int) < (n : Int) := by omega
              have hi63 : (i : Int) ≤ 64 := by omega
              have hj63 : (j : Int) ≤ 64 := by omega
              have hk63 : (k : Int) ≤ 64 := by omega
              have hSz := HSZ.out
              have hsz := hBj.size
              have HK : Hid (∀ W, Below wj.heap.size wj W → W.cell? ⟨w.heap.size, 1, none⟩ = some (.int .i64 (K : Int)) ∧ W.cell? ⟨w.heap.size, 2, none⟩ = some (.slice (some ⟨S, oa, none⟩) m cap) ∧ W.cell? ⟨S, oa + V1, none⟩ = some (.int .u64 (lim xs V1 : Int))
                ∧ W.cell? ⟨w.heap.size + 1, 1, none⟩ = some (.int .i64 (C : Int)) ∧ W.cell? ⟨w.heap.size + 1, 2, none⟩ = some (.slice (some ⟨T, ob, none⟩) n cap') ∧ W.cell? ⟨T, ob + V2, none⟩ = some (.int .u64 (lim ys V2 : Int))) := Lib.hid (fun W h =>
                ⟨(hG1x.out.behind h).cell (i := 1) rfl, (hG1x.out.behind h).cell (i := 2) rfl, (h.cell (p := ⟨S, oa + V1, none⟩) (by show S < _; omega)).trans ka,
                 (hG2x.out.behind h).cell (i := 1) rfl, (hG2x.out.behind h).cell (i := 2) rfl, (h.cell (p := ⟨T, ob + V2, none⟩) (by show T < _; omega)).trans kb⟩)
              clear ka kb hA1 hA2 hA3 hA4 hP hQ hSz hsz
              generalize lim xs V1 = x at *
              generalize lim ys V2 = y at *
              generalize PX i k = Pk at *
              generalize PY j k = Rk at *
              have HPB : Hid (∀ q, wr.heap.size ≤ q → u9.ownBlock ≠ some q) := Lib.hid (fun q hq e => by have := (World.ownsRow.lt hD.2.1 q e).2; omega)
              go_upto_region 12 with (fail)
              as_aux_lemma =>
                go_region_held3 (fun W => W.cell? ⟨w.heap.size, 1, none⟩ = some (.int .i64 (K : Int)) ∧ W.cell? ⟨w.heap.size, 2, none⟩ = some (.slice (some ⟨S, oa, none⟩) m cap) ∧ W.cell? ⟨S, oa + V1, none⟩ = some (.int .u64 (x : Int))
                  ∧ W.cell? ⟨w.heap.size + 1, 1, none⟩ = some (.int .i64 (C : Int)) ∧ W.cell? ⟨w.heap.size + 1, 2, none⟩ = some (.slice (some ⟨T, ob, none⟩) n cap') ∧ W.cell? ⟨T, ob + V2, none⟩ = some (.int .u64 (y : Int)))
                  (first | with_reducible exact HK.out _ hD.bel | with_reducible exact HK.out _ hD.drew.bel | with_reducible exact HK.out _ (hD.alloc _).bel | with_reducible exact HK.out _ (hD.drew.alloc _).bel | exact HK.out _ (hD.drew.alloc _).bel | with_reducible exact HK.out _ ((hD.drew.alloc _).alloc _).bel | exact HK.out _ (hD.alloc _).bel | exact HK.out _ ((hD.drew.alloc _).alloc _).bel | exact HK.out _ hD.bel)
                  (first
                    | (refine step_duo (by rfl) _ _ (by rfl) (by rfl) (by rfl) (cell_new1 _ _ _) (hD.drew.alloc _) (by omega) ?_; intro p2 w6 hD hKP)
                    | (refine step_duo (by rfl) _ _ (by rfl) (by rfl) (by rfl) (((ms_new _ #[.int .u64 (x : Int)] 32).behind (bel_new _ _)).cell (i := 0) rfl) ((hD.drew.alloc _).alloc _) (by omega) ?_; intro p2 w6 hD hKP)
                    | (refine step_duo (by rfl) _ _ (by rfl) (by rfl) (by rfl) (((ms_two _ _ #[.int .u64 (x : Int)] 32)).cell (i := 0) rfl) ((hD.alloc _).alloc _) (by omega) ?_; intro p2 w6 hD hKP)
                    | (refine step_duo (by rfl) _ _ (by rfl) (by rfl) (by rfl) ((Ms.drew' (ms_two _ _ #[.int .u64 (x : Int)] 32)).cell (i := 0) rfl) (((hD.alloc _).alloc _).drew) (by omega) ?_; intro p2 w6 hD hKP)
                    | (refine step_duo' (by rfl) _ _ (by rfl) (by rfl) (by rfl) (cell_new1 _ _ _) (hD.alloc _) (by omega) ?_; intro r2 w7 hD hKR)
                    | (refine step_duo' (by rfl) _ _ (by rfl) (by rfl) (by rfl) ((hKP _ _ _ (HPB.out _ (Nat.le_refl _)) (((ms_new _ #[.int .u64 (y : Int)] 32)).behind (bel_new _ _))).cell (i := 0) rfl) hD (by omega) ?_; intro r2 w7 hD hKR)
                    | (refine step_duo' (by rfl) _ _ (by rfl) (by rfl) (by rfl) ((hKP _ _ _ (HPB.out _ (Nat.le_refl _)) (Ms.drew' (((ms_new _ #[.int .u64 (y : Int)] 32)).behind (bel_new _ _)))).cell (i := 0) rfl) hD (by omega) ?_; intro r2 w7 hD hKR)
                    | (refine step_duo' (by rfl) _ _ (by rfl) (by rfl) (by rfl) ((hKP _ _ _ (HPB.out _ (Nat.le_succ _)) (ms_two _ _ #[.int .u64 (y : Int)] 32)).cell (i := 0) rfl) hD (by omega) ?_; intro r2 w7 hD hKR)
                    | (refine step_duo' (by rfl) _ _ (by rfl) (by rfl) (by rfl) ((hKP _ _ _ (HPB.out _ (Nat.le_succ _)) (Ms.drew' (ms_two _ _ #[.int .u64 (y : Int)] 32))).cell (i := 0) rfl) hD (by omega) ?_; intro r2 w7 hD hKR)
                    | (fail))
                all_goals
                  go_wp2
                  go_roundw
                  case rel => exact ⟨k + 1, by omega, by simp, by rw [HS1.out, HS2.out]; exact hD⟩
                  case measure => simp [intOf]; omega
            · obtain rfl : k = K := by omega
              have hDb := hD.bel
              have hSz := HSZ.out
              have hsz1 := hBj.size
              have hsz2 := hDb.size
              have hP := (new_zn.2 (hD.2.1.new (by omega))).arg
              have hR := (new_zn.2 (hD.2.2.1.new (by omega))).arg
              have HDT := Lib.hid (vec_dot hP hR (HPW.out i k) (HQW.out j k) (by rw [HPL.out]; omega) (by rw [HQL.out]; omega))
              obtain ⟨e1, e2⟩ := HDE.out i j hlt hjl
              have HE1 := Lib.hid e1
              have HE2 := Lib.hid e2
              have HF1 := Lib.hid (HFN.out (i * C + j) (HIC.out i j hlt hjl))
              have HGS := Lib.hid (rowV_succ (i * C + j) G)
              have hql : (zn (rowV (i * C + j) G)).length + 1 ≤ 17592186044416 := by rw [zn_length, rowV_length]; have := HIC.out i j hlt hjl; have := HRC.out; omega
              clear hkl e1 e2 hP hR hD hSz hsz1 hsz2
              generalize dotE (PX i k) (PY j k) = de at *
              generalize dotR (PX i k) (PY j k) = dr at *
              go_wp2_with fail
              refine HDT.out.mono ?_
              rintro e w8 ⟨rfl, b8⟩
              have hBx := below_both hDb b8
              have ho8 := hoj.below hBx
              have hM8 := hMj.behind hBx
              have hU8 := hUj.below hBx
              have hB8 := below_both hBj hBx
              have hsU := hU8.1
              clear hDb b8 HDT hBx hoj hMj hUj hBj hG1x hG2x c1
              by_cases hc : cls (G (i * C + j)) ≤ 1
              · have hde : de = 0 := by rw [HE1.out, if_pos hc]
                have hdr : dr = G (i * C + j) := HE2.out hc
                subst hde
                have HQ2 : Hid (∀ q, q < i * C + j + 1 → cls (G q) ≤ 1) := Lib.hid (fun q hq => by
                  rcases Nat.lt_or_ge q (i * C + j) with h | h
                  · exact HQ.out q h
                  · obtain rfl : q = i * C + j := by omega
                    exact hc)
                have hc2 : w8.cell? ⟨w.heap.size + 1 + 1 + 1, 2, none⟩ = some d := hM8.cell (i := 2) rfl
                have hSz := HSZ.out
                rw [← hdr] at HGS
                clear hc hdr HE1 HE2 HF1
                go_wp2_with (at_builtin; refine app_u64 rfl _ _ rfl rfl rfl (cell_new1 _ _ _) (ho8.alloc _) hql (by simp; omega) ?_; intro v' w9 ho9 hb9; obtain ⟨a9, c9, rfl⟩ := ho9.len; simp only [List.length_append, List.length_cons, List.length_nil, Nat.zero_add] at ho9; have hb8 := ((Below.refl W6.heap.size w8).alloc hsU _).trans hb9; have hM9 := hM8.below hb8 (by omega); have k2 := hM9.cell (i := 2) rfl; have kf2 := hM9.f 2)
                go_roundw
                case rel => exact ⟨j + 1, _, by omega, by simp, hM9.set 2 _, by rw [← Nat.add_assoc, HGS.out, zn_snoc]; exact ho9.far (p := ⟨w.heap.size + 1 + 1 + 1, 2, none⟩) (by show w.heap.size + 1 + 1 + 1 < _; omega) _, (hU8.low hb8).set 2 _, (hB8.trans (hb8.mono (by omega))).setCell (p := ⟨w.heap.size + 1 + 1 + 1, 2, none⟩) (by show w.heap.size ≤ w.heap.size + 1 + 1 + 1; omega) _, HQ2⟩
                case measure => simp [intOf]; omega
              · have hde : de = 13 := by rw [HE1.out, if_neg hc]
                have HT : Hid (E = 13) := Lib.hid (HF1.out hc)
                subst hde
                have hM3 := hU8.ms HG3.out (by omega)
                have g30 := hM3.cell (i := 0) rfl
                have g31 := hM3.cell (i := 1) rfl
                have g33 := hM3.cell (i := 2) rfl
                have f0 := hM3.f 0
                have f1 := hM3.f 1
                have f2 := hM3.f 2
                have HBc := Lib.hid hB8
                clear hc HE1 HE2 HF1 hM8 hM3 hU8 hB8 ho8
                go_wp2
                exact bodyPost_ret (v := .tuple #[.agg #[.int .i64 0, .int .i64 0, .slice none 0 0], .bool false]) (by simp [results, Try.results39, go_sem, g30, g31, g33]) rfl
                  ⟨0, 0, none, 0, 0, by rw [HT.out]; rfl, by rw [HPM.out.out, if_neg (by rw [HT.out]; decide)]; exact new_nil _ hpos (HBc.out.put3 (by omega) _ _ _), fun h => absurd (HT.out.symm.trans h) (by decide), HBc.out.put3 (by omega) _ _ _⟩
        · obtain rfl : j = C := by omega
          clear hjl hM2
          go_wp2
          go_roundw
          case rel => exact ⟨i + 1, d, by omega, by simp, hM, by rw [Nat.add_mul, Nat.one_mul]; exact ho, hU, hB, by rw [Nat.add_mul, Nat.one_mul]; exact HQ⟩
          case measure => simp [intOf]; omega
    · obtain rfl : i = R := by omega
      have hSz := HSZ.out
      have hM3 := hU.ms HG3.out (by omega)
      have hsz := hB.size
      have HNEW := Lib.hid (new_zn.2 (ho.new (by omega)))
      obtain ⟨a8, c8, e8⟩ := ho.len
      rw [zn_length, rowV_length] at e8
      have HT : Hid (E = 0) := Lib.hid (HFB.out HQ.out)
      subst e8
      have k0 := hM.cell (i := 0) rfl
      have k1 := hM.cell (i := 1) rfl
      have k2 := hM.cell (i := 2) rfl
      have g30 := hM3.cell (i := 0) rfl
      have g31 := hM3.cell (i := 1) rfl
      have g33 := hM3.cell (i := 2) rfl
      have f0 := hM3.f 0
      have f1 := hM3.f 1
      have f2 := hM3.f 2
      have HBc := Lib.hid hB
      have HS3 := Lib.hid hSz
      clear ho hM hU hB hM1 hM3 hlt HQ hSz hsz
      generalize hN : i * C = N at *
      clear hN
      go_wp2
      exact bodyPost_ret (v := .tuple #[.agg #[.int .i64 (i : Int), .int .i64 (C : Int), .slice a8 N c8], .bool true]) (by simp [results, Try.results39, go_sem, g30, g31, g33]) rfl
        ⟨i, C, a8, N, c8, by rw [HT.out]; rfl, by rw [HPM.out.out, if_pos HT.out]; exact (HNEW.out.put3 (by have := HS3.out; omega) _ _ _).lower (by have := HS3.out; omega), fun _ => ⟨rfl, rfl⟩, HBc.out.put3 (by omega) _ _ _⟩
end Go.Proofs.Ytdcebkhdnhdejaa

/- gemm.Syrk; vernierlaw21: GemmTells, walked. -/
namespace Go.Proofs.Ytdcebkhdnhdejaa
open Go.RowKit Go.Shelf
theorem fin_yes {R C : Int} {xs : List Nat} (h : finM R C xs.length xs = 0) : mayM R C xs.length = true ∧ finB xs xs.length = true := by
  have hm := (finM_ok h).1
  refine ⟨hm, ?_⟩
  rw [finM_may hm] at h
  cases hf : finB xs xs.length
  · rw [hf] at h; exact absurd h (by decide)
  · rfl
theorem fin_turn {R C : Nat} {xs : List Nat} (h : finM R C xs.length xs = 0) : finM C R (R * C) (trl R C xs) = 0 := by
  obtain ⟨hm, hf⟩ := fin_yes h
  obtain ⟨q1, q2, q3, q4, q5⟩ := mayM_iff.1 hm
  have hl : xs.length = R * C := by rw [← Int.natCast_mul] at q5; omega
  have h2 := finM_may (R := (C : Int)) (C := (R : Int)) (ws := trl R C xs) (by rw [trl_length]; exact mayM_iff.2 ⟨q3, q4, q1, q2, by rw [Int.natCast_mul, Int.mul_comm]⟩)
  rw [trl_length] at h2
  rw [h2]
  have h3 := fin_trl (K := R) (C := C) hl hf
  rw [trl_length] at h3
  rw [h3, if_pos rfl]
def syP (R C : Int) (xs : List Nat) : List Nat := mulP R C R xs (trl R.toNat C.toNat xs)
theorem sameM_self (R C : Int) (xs : List Nat) : sameM R C R C xs xs = true := by unfold sameM; simp
end Go.Proofs.Ytdcebkhdnhdejaa
