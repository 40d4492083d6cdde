/- vernierlaw21: product. -/
import Derived.Test.YtjiilechfjkkfaaGeOne
import Derived.Deep.RegionHeld3
namespace Go.Proofs.Ytjiilechfjkkfaa
open Go.RowKit Go.Shelf
/-- append(xs, x) in a region that draws its order -/
theorem step_app {ops : Array Oper} {o : Oper} {a : Act} {K : Act → World → Prop} {Q : Exit → Act → World → Prop} {E : Prop} {W : World} (hgd : o.guard = none) (s x : Operand)
    (ho : o.op = .call { callee := .builtin .append, args := #[s, x], argTypes := #[22, 22] }) {b : Nat} {v : Value} {xs : List Nat} {z : Nat} {g : Nat} (hs : a.eval s = v) (hx : a.eval x = .slice (some ⟨g, 0, none⟩) 1 1)
    (hc : W.cell? ⟨g, 0, none⟩ = some (.int .u64 (z : Int))) (hown : OwnK .u64 32 b W v (zn xs)) (hlen : xs.length + 1 ≤ 17592186044416) (hb : b ≤ W.heap.size)
    (h : ∀ g' cap w', OwnK .u64 32 b w' (.slice (some ⟨g', 0, none⟩) (xs.length + 1) cap) (zn (xs ++ [z])) → W.grownBy w' v.ownBlock → (v.ownBlock = some g' ∨ g' = W.heap.size) → g' < w'.heap.size → K (a.put o.dst (.slice (some ⟨g', 0, none⟩) (xs.length + 1) cap)) w') :
    if Region.wanted o (yielded ops a.tmps) = true then Oper.wp Try.prog o a W K Q else E := by
  obtain ⟨i0, hi, hz0, hz1, hz2⟩ := info_parts info_u64
  have hl := valsK_length .u64 (zn xs)
  have hl2 := zn_length xs
  have hown2 : W.ownsRow b 32 1 v xs.length (valsK .u64 (zn xs)) := by
    have h1 := hown
    unfold OwnK at h1
    rwa [hl2] at h1
  refine step_append_lies W hgd s x 22 ho b 32 i0 (.int .u64 0) 1 8 Try.underlying22 hi hz0 hz1 hz2 rfl (by decide) v xs.length (valsK .u64 (zn xs)) hs hown2 ⟨g, 0, none⟩ 1 1 [.int .u64 (z : Int)] hx rfl ?_ ?_ (by decide) (by simp only [maxLen]; omega) (by omega) hb _ rfl ?_
  · intro j u hu
    rcases j with _ | j
    · simp only [List.getElem?_cons_zero, Option.some.injEq] at hu
      subst hu
      exact hc
    · simp at hu
  · intro u hu
    simp only [List.mem_cons, List.not_mem_nil, or_false] at hu
    subst hu; rfl
  · intro g' cap w' h1 h2 h3 h4
    refine h g' cap w' ?_ h2 h3 h4
    unfold OwnK
    rw [zn_length, List.length_append, List.length_cons, List.length_nil, zn_snoc, ← valsK_snoc]
    exact h1
theorem Ms.drew' {W : World} {g : Nat} {cs : Array Value} {t : TypeId} (h : Ms W g cs t) : Ms W.drew g cs t := h
theorem cell_new1d (W : World) (u : Value) (t : TypeId) : (W.alloc (.cells #[u] t)).drew.cell? ⟨W.heap.size, 0, none⟩ = some u := cell_new1 W u t
theorem ms_new (W : World) (cs : Array Value) (t : TypeId) : Ms (W.alloc (.cells cs t)) W.heap.size cs t := World.alloc_heap_new W _
theorem ms_two (W : World) (o : Obj) (cs : Array Value) (t : TypeId) : Ms ((W.alloc o).alloc (.cells cs t)) (W.heap.size + 1) cs t := by
  have h := ms_new (W.alloc o) cs t
  rwa [World.size_alloc] at h
section
variable {w W W' : World} {p r : Value} {P R : List Nat}
theorem step_duo {ops : Array Oper} {o : Oper} {a : Act} {K : Act → World → Prop} {Q : Exit → Act → World → Prop} {E : Prop} (hgd : o.guard = none) (s x : Operand)
    (ho : o.op = .call { callee := .builtin .append, args := #[s, x], argTypes := #[22, 22] }) {z : Nat} {g : Nat} (hs : a.eval s = p) (hx : a.eval x = .slice (some ⟨g, 0, none⟩) 1 1)
    (hc : W.cell? ⟨g, 0, none⟩ = some (.int .u64 (z : Int))) (hT : Duo w W p r P R) (hlen : P.length + 1 ≤ 17592186044416)
    (h : ∀ p' w', Duo w w' p' r (P ++ [z]) R → (∀ g cs t, p.ownBlock ≠ some g → Ms W g cs t → Ms w' g cs t) → K (a.put o.dst p') w') :
    if Region.wanted o (yielded ops a.tmps) = true then Oper.wp Try.prog o a W K Q else E := by
  obtain ⟨h1, h2, h3, h4⟩ := hT
  refine step_app hgd s x ho hs hx hc h2 hlen h1.size ?_
  intro g' cap w' k1 k2 k3 k4
  refine h _ w' ⟨h1.trans (below_grown k2 h1.size fun q hq => (World.ownsRow.lt h2 q hq).1), k1, h3.grew k2 (fun q hq e => h4 q e hq), ?_⟩ (fun g cs t hne hM => (k2.block g hM.lt (fun e => hne e.symm)).trans hM)
  intro q hq e
  have hq2 : g' = q := by simpa [Value.ownBlock] using hq
  subst hq2
  rcases k3 with k3 | k3
  · exact h4 _ k3 e
  · have := (World.ownsRow.lt h3 _ e).2
    omega
theorem step_duo' {ops : Array Oper} {o : Oper} {a : Act} {K : Act → World → Prop} {Q : Exit → Act → World → Prop} {E : Prop} (hgd : o.guard = none) (s x : Operand)
    (ho : o.op = .call { callee := .builtin .append, args := #[s, x], argTypes := #[22, 22] }) {z : Nat} {g : Nat} (hs : a.eval s = r) (hx : a.eval x = .slice (some ⟨g, 0, none⟩) 1 1)
    (hc : W.cell? ⟨g, 0, none⟩ = some (.int .u64 (z : Int))) (hT : Duo w W p r P R) (hlen : R.length + 1 ≤ 17592186044416)
    (h : ∀ r' w', Duo w w' p r' P (R ++ [z]) → (∀ g cs t, r.ownBlock ≠ some g → Ms W g cs t → Ms w' g cs t) → K (a.put o.dst r') w') :
    if Region.wanted o (yielded ops a.tmps) = true then Oper.wp Try.prog o a W K Q else E :=
  step_duo hgd s x ho hs hx hc hT.flip hlen fun r' w' h1 h2 => h r' w' h1.flip h2
end
theorem But.low {d : Nat} {w W W' : World} (h : But d w W) (hb : Below w.heap.size W W') : But d w W' := ⟨Nat.le_trans h.1 hb.size, fun g hg hne => (hb.block g hg).trans (h.2 g hg hne)⟩
theorem chk_rowV {n : Nat} {f : Nat → Nat} (hn : n ≤ 64) (h : ∀ l, l < n → cls (f l) ≤ 1) : chkV (rowV n f) = 0 :=
  chkV_ok.2 ⟨by rw [rowV_length]; exact hn, finB_iff.2 fun j hj => by
    rw [rowV_length] at hj
    rw [rowV_lim _ hj]
    exact h j hj⟩
theorem prodG_at {K C i j : Nat} (xs ys : List Nat) (hj : j < C) : prodG K C xs ys (i * C + j) = dotV (rowV K fun l => lim xs (i * K + l)) (rowV K fun l => lim ys (l * C + j)) K := by
  have e1 : (i * C + j) / C = i := by rw [Nat.mul_comm, Nat.mul_add_div (by omega), Nat.div_eq_of_lt hj, Nat.add_zero]
  have e2 : (i * C + j) % C = j := by rw [Nat.mul_comm, Nat.mul_add_mod, Nat.mod_eq_of_lt hj]
  unfold prodG
  rw [e1, e2]
set_option maxRecDepth 100000 in
set_option maxHeartbeats 16000000 in
theorem l21_product {R K C : Nat} {a b : Option Addr} {m n cap cap' : Nat} {xs ys : List Nat} {w : World} (hA : Arg w (.slice a m cap) xs) (hB : Arg w (.slice b n cap') ys) (hx : Low 18446744073709551616 xs) (hy : Low 18446744073709551616 ys)
    (h1 : finM R K m xs = 0) (h2 : finM K C n ys = 0) :
    Calls Try.prog 50 #[.agg #[.int .i64 (R : Int), .int .i64 (K : Int), .slice a m cap], .agg #[.int .i64 (K : Int), .int .i64 (C : Int), .slice b n cap']] w fun e W' => ∃ R2 C2 b2 n2 c2, e = .returned (.tuple #[.agg #[.int .i64 R2, .int .i64 C2, .slice b2 n2 c2], .bool (tellV (prodM R K C xs ys) 0 == 0)]) ∧ New w.heap.size W' (.slice b2 n2 c2) (if tellV (prodM R K C xs ys) 0 = 0 then prodM R K C xs ys else []) ∧ (tellV (prodM R K C xs ys) 0 = 0 → R2 = R ∧ C2 = C) ∧ Below w.heap.size w W' := by
  have hpos : 0 < w.heap.size := by obtain ⟨S, hS, _⟩ := hA; omega
  have hmx : m = xs.length := by
    obtain ⟨a', c', e⟩ := hA.slice
    simp only [Value.slice.injEq] at e
    omega
  have hny : n = ys.length := by
    obtain ⟨a', c', e⟩ := hB.slice
    simp only [Value.slice.injEq] at e
    omega
  have hm := (finM_ok h1).1
  have hn := (finM_ok h2).1
  obtain ⟨q1, q2, q3, q4, q5⟩ := mayM_iff.1 hm
  obtain ⟨_, _, q6, q7, q8⟩ := mayM_iff.1 hn
  have hmn : m = R * K := by rw [← Int.natCast_mul] at q5; omega
  have hnn : n = K * C := by rw [← Int.natCast_mul] at q8; omega
  have hfx : finB xs xs.length = true := by
    rw [hmx] at h1 hm
    rw [finM_may hm] at h1
    cases hf : finB xs xs.length
    · rw [hf] at h1; exact absurd h1 (by decide)
    · rfl
  have hfy : finB ys ys.length = true := by
    rw [hny] at h2 hn
    rw [finM_may hn] at h2
    cases hf : finB ys ys.length
    · rw [hf] at h2; exact absurd h2 (by decide)
    · rfl
  have hrc : R * C ≤ 4096 := by have := Nat.mul_le_mul (show R ≤ 64 by omega) (show C ≤ 64 by omega); omega
  have hrk : R * K ≤ 4096 := by have := Nat.mul_le_mul (show R ≤ 64 by omega) (show K ≤ 64 by omega); omega
  have hkc : K * C ≤ 4096 := by have := Nat.mul_le_mul (show K ≤ 64 by omega) (show C ≤ 64 by omega); omega
  have hR64 : R ≤ 64 := by omega
  have hK64 : K ≤ 64 := by omega
  have hC64 : C ≤ 64 := by omega
  have HIX : Hid (∀ i k, i < R → k < K → i * K + k < m) := Lib.hid (fun i k hi hk => by have := place_lt (R := K) (C := R) hk hi; rw [hmn, Nat.mul_comm R K]; exact this)
  have HIY : Hid (∀ k j, k < K → j < C → k * C + j < n) := Lib.hid (fun k j hk hj => by have := place_lt (R := C) (C := K) hj hk; rw [hnn, Nat.mul_comm K C]; exact this)
  have HIC : Hid (∀ i j, i < R → j < C → i * C + j < R * C) := Lib.hid (fun i j hi hj => by have := place_lt (R := C) (C := R) hj hi; rw [Nat.mul_comm R C]; exact this)
  obtain ⟨PX, hPX⟩ : ∃ PX : Nat → Nat → List Nat, PX = fun i k => rowV k fun l => lim xs (i * K + l) := ⟨_, rfl⟩
  obtain ⟨PY, hPY⟩ : ∃ PY : Nat → Nat → List Nat, PY = fun j k => rowV k fun l => lim ys (l * C + j) := ⟨_, rfl⟩
  have HP0 : Hid (∀ i, PX i 0 = []) := Lib.hid (fun i => by rw [hPX]; rfl)
  have HQ0 : Hid (∀ j, PY j 0 = []) := Lib.hid (fun i => by rw [hPY]; rfl)
  have HPS : Hid (∀ i k, PX i (k + 1) = PX i k ++ [lim xs (i * K + k)]) := Lib.hid (fun i k => by rw [hPX]; exact rowV_succ _ _)
  have HQS : Hid (∀ j k, PY j (k + 1) = PY j k ++ [lim ys (k * C + j)]) := Lib.hid (fun i k => by rw [hPY]; exact rowV_succ _ _)
  have HPL : Hid (∀ i k, (PX i k).length = k) := Lib.hid (fun i k => by rw [hPX]; exact rowV_length _ _)
  have HQL : Hid (∀ i k, (PY i k).length = k) := Lib.hid (fun i k => by rw [hPY]; exact rowV_length _ _)
  have HPW : Hid (∀ i k, Low 18446744073709551616 (PX i k)) := Lib.hid (fun i k => by rw [hPX]; exact rowV_low fun l _ => by have := lim_lt hx (by decide : 0 < 18446744073709551616) (i * K + l); omega)
  have HQW : Hid (∀ i k, Low 18446744073709551616 (PY i k)) := Lib.hid (fun i k => by rw [hPY]; exact rowV_low fun l _ => by have := lim_lt hy (by decide : 0 < 18446744073709551616) (l * C + i); omega)
  have HDE : Hid (∀ i j, i < R → j < C → dotE (PX i K) (PY j K) = (if cls (prodG K C xs ys (i * C + j)) ≤ 1 then 0 else 13) ∧ (cls (prodG K C xs ys (i * C + j)) ≤ 1 → dotR (PX i K) (PY j K) = prodG K C xs ys (i * C + j))) := Lib.hid (fun i j hi hj => by
    have hd := dot_fin (K := K) (chk_rowV (f := fun l => lim xs (i * K + l)) hK64 (fun l hl => finB_iff.1 hfx _ (by rw [← hmx]; exact HIX.out i l hi hl))) (chk_rowV (f := fun l => lim ys (l * C + j)) hK64 (fun l hl => finB_iff.1 hfy _ (by rw [← hny]; exact HIY.out l j hl hj))) (rowV_length _ _) (rowV_length _ _)
    rw [← prodG_at xs ys hj] at hd
    rw [hPX, hPY]
    exact hd)
  obtain ⟨S, a', c'', hS, e, hcap, HX⟩ := hA.opened
  simp only [Value.slice.injEq] at e
  obtain ⟨rfl, -, rfl⟩ := e
  obtain ⟨T, a', c'', hT, e, hcapT, HY⟩ := hB.opened
  simp only [Value.slice.injEq] at e
  obtain ⟨rfl, -, rfl⟩ := e
  rw [← hmx] at HX
  rw [← hny] at HY
  obtain ⟨E, hE⟩ : ∃ E, E = tellV (prodM R K C xs ys) 0 := ⟨_, rfl⟩
  rw [← hE]
  obtain ⟨Z, hZ⟩ : ∃ Z, Z = if E = 0 then prodM R K C xs ys else [] := ⟨_, rfl⟩
  rw [← hZ]
  have HZD := Lib.hid hZ
  have HPR : Hid (rowV (R * C) (prodG K C xs ys) = prodM R K C xs ys) := Lib.hid rfl
  have HFB : Hid ((∀ j, j < R * C → cls (prodG K C xs ys j) ≤ 1) → E = 0) := Lib.hid (fun h => by
    rw [hE, tellV_yes, finB_iff.2 (fun j hj => by
      unfold prodM at hj ⊢
      rw [rowV_length] at hj
      rw [rowV_lim _ hj]; exact h j hj), if_pos rfl])
  have HFN : Hid (∀ j, j < R * C → ¬ cls (prodG K C xs ys j) ≤ 1 → E = 13) := Lib.hid (fun j hj h => by
    rw [hE, tellV_yes, finB_not (j := j) (by unfold prodM; rw [rowV_length]; exact hj) (by unfold prodM; rw [rowV_lim _ hj]; exact (by omega : 2 ≤ cls (prodG K C xs ys j))), if_neg (by decide)])
  obtain ⟨G, hG⟩ : ∃ G, G = prodG K C xs ys := ⟨_, rfl⟩
  rw [← hG] at HDE HFB HFN HPR
  have HPM := Lib.hid (show Hid (Z = if E = 0 then rowV (R * C) G else []) from Lib.hid (by rw [hZ, HPR.out]))
  obtain ⟨b1, G1, G2, hw1⟩ := vboxm w #[.int .i64 (R : Int), .int .i64 (K : Int), .slice a m cap] #[.int .i64 (K : Int), .int .i64 (C : Int), .slice b n cap'] 24 24 _ rfl
  obtain ⟨k2, G3, G4, hw3⟩ := vboxm ((w.alloc (.cells #[.int .i64 (R : Int), .int .i64 (K : Int), .slice a m cap] 24)).alloc (.cells #[.int .i64 (K : Int), .int .i64 (C : Int), .slice b n cap'] 24)) #[.int .i64 0, .int .i64 0, .slice none 0 0] #[.int .i64 (R : Int), .int .i64 (C : Int), .slice none 0 0] 24 24 _ rfl
  simp only [World.size_alloc] at G3 G4 hw3
  replace G1 := G1.behind k2
  replace G2 := G2.behind k2
  have B := below_both b1 k2
  have hR63 : (R : Int) ≤ 64 := by omega
  have hK63 : (K : Int) ≤ 64 := by omega
  have hC63 : (C : Int) ≤ 64 := by omega
  have hm4 : (m : Int) ≤ 4096 := by omega
  have hn4 : (n : Int) ≤ 4096 := by omega
  have HRC := Lib.hid hrc
  clear b1 k2 hw1 hA hB hx hy h1 h2 hm hn q1 q2 q3 q4 q5 q6 q7 q8 hmn hnn hfx hfy hrk hkc hrc hE hZ hmx hny hcap hcapT hPX hPY hG HPR HZD
  generalize prodM R K C xs ys = pm at *
  have c0 := G1.cell (i := 0) rfl
  have c1 := G1.cell (i := 1) rfl
  have c2 := G1.cell (i := 2) rfl
  have d0 := G2.cell (i := 0) rfl
  have d1 := G2.cell (i := 1) rfl
  have d2 := G2.cell (i := 2) rfl
  go_enter Try.func50, Try.ntmps50
  go_wp2_with fail
  generalize hW6 : (((w.alloc (.cells #[.int .i64 (R : Int), .int .i64 (K : Int), .slice a m cap] 24)).alloc (.cells #[.int .i64 (K : Int), .int .i64 (C : Int), .slice b n cap'] 24)).alloc (.cells #[.int .i64 0, .int .i64 0, .slice none 0 0] 24)).alloc (.cells #[.int .i64 (R : Int), .int .i64 (C : Int), .slice none 0 0] 24) = W6 at *
  clear hW6 c0 c1 c2 d0 d1 d2 hw3
  have hw3 := G4.lt
  have HG1 := Lib.hid G1
  have HG2 := Lib.hid G2
  have HG3 := Lib.hid G3
  have HSZ : Hid (w.heap.size + 1 + 1 + 1 < W6.heap.size ∧ S < w.heap.size ∧ T < w.heap.size) := Lib.hid ⟨hw3, hS, hT⟩
  have HB6 := Lib.hid B
  have HNL := Lib.hid (OwnK.nil .u64 32 W6 W6.heap.size)
  have hG4 := G4
  clear G1 G2 G3 G4 B hw3 hS hT
  go_loopw [7] (fun iv wr => ∃ (i : Nat) (d : Value), i ≤ R ∧ iv = .int .i64 i ∧ Ms wr (w.heap.size + 1 + 1 + 1) #[.int .i64 (R : Int), .int .i64 (C : Int), d] 24 ∧ OwnK .u64 32 W6.heap.size wr d (zn (rowV (i * C) G)) ∧ But (w.heap.size + 1 + 1 + 1) W6 wr ∧ Below w.heap.size w wr ∧ Hid (∀ q, q < i * C → cls (G q) ≤ 1)) (fun iv _ => R - (intOf iv).toNat)
  case atStart => exact ⟨0, .slice none 0 0, Nat.zero_le _, rfl, hG4, by rw [Nat.zero_mul]; exact HNL.out, But.refl _ _, HB6.out, Lib.hid (fun q h => by rw [Nat.zero_mul] at h; exact absurd h (Nat.not_lt_zero _))⟩
  case round =>
    obtain ⟨i, d, hi, rfl, hM, ho, hU, hB, HQ⟩ := hrel
    have hM1 := hU.ms HG1.out (by omega)
    have c0 : wr.cell? ⟨w.heap.size, 0, none⟩ = some (.int .i64 (R : Int)) := hM1.cell (i := 0) rfl
    by_cases hlt : i < R
    · clear hM1
      go_wp2
      have ho1 : OwnK .u64 32 W6.heap.size wr d (zn (rowV (i * C + 0) G)) := ho
      have HQ1 : Hid (∀ q, q < i * C + 0 → cls (G q) ≤ 1) := HQ
      obtain ⟨wo, rfl⟩ : ∃ wo, wo = wr := ⟨_, rfl⟩
      obtain ⟨dz, rfl⟩ : ∃ dz, dz = d := ⟨_, rfl⟩
      have hM0 := hM
      have hU0 := hU
      have hB0 := hB
      clear ho HQ hM hU hB c0
      go_loopw [8] (fun jv wx => ∃ (j : Nat) (d : Value), j ≤ C ∧ jv = .int .i64 j ∧ Ms wx (w.heap.size + 1 + 1 + 1) #[.int .i64 (R : Int), .int .i64 (C : Int), d] 24 ∧ OwnK .u64 32 W6.heap.size wx d (zn (rowV (i * C + j) G)) ∧ But (w.heap.size + 1 + 1 + 1) W6 wx ∧ Below w.heap.size w wx ∧ Hid (∀ q, q < i * C + j → cls (G q) ≤ 1)) (fun jv _ => C - (intOf jv).toNat)
      case atStart => exact ⟨0, dz, Nat.zero_le _, rfl, hM0, ho1, hU0, hB0, HQ1⟩
      case round =>
        obtain ⟨j, d, hj, rfl, hM, ho, hU, hB, HQ⟩ := hrel
        have hM2 := hU.ms HG2.out (by omega)
        have d1 : wr.cell? ⟨w.heap.size + 1, 1, none⟩ = some (.int .i64 (C : Int)) := hM2.cell (i := 1) rfl
        by_cases hjl : j < C
        · have hM1 := hU.ms HG1.out (by omega)
          have hG1x := Lib.hid hM1
          have hG2x := Lib.hid hM2
          clear hM1 hM2
          go_wp2
          obtain ⟨wj, rfl⟩ : ∃ wj, wj = wr := ⟨_, rfl⟩
          have hBj := hB
          have hMj := hM
          have hoj := ho
          have hUj := hU
          clear hB hM ho hU d1
          go_loopw [9, 10, 11] (fun p r kv wx => ∃ k : Nat, k ≤ K ∧ kv = .int .i64 k ∧ Duo wj wx p r (PX i k) (PY j k)) (fun _ _ kv _ => K - (intOf kv).toNat)
          case atStart => exact ⟨0, Nat.zero_le _, rfl, by rw [HP0.out, HQ0.out]; exact Duo.nil _⟩
          case round =>
            obtain ⟨k, hk, rfl, hD⟩ := hrel
            have c1 : wr.cell? ⟨w.heap.size, 1, none⟩ = some (.int .i64 (K : Int)) := (hG1x.out.behind hD.bel).cell (i := 1) rfl
            by_cases hkl : k < K
            · have hP := HIX.out i k hlt hkl
              have hQ := HIY.out k j hkl hjl
              obtain ⟨oa, rfl, ka⟩ := HX.out wj hBj (i * K + k) hP
              obtain ⟨ob, rfl, kb⟩ := HY.out wj hBj (k * C + j) hQ
              obtain ⟨e1, e2⟩ := wplace (i := i) (C := K) (j := k) (by omega) hK64 (by omega)
              obtain ⟨e3, e4⟩ := wplace (i := k) (C := C) (j := j) (by omega) hC64 (by omega)
              have HS1 := Lib.hid (HPS.out i k)
              have HS2 := Lib.hid (HQS.out j k)
              have hl1 : (PX i k).length + 1 ≤ 17592186044416 := by rw [HPL.out]; omega
              have hl2 : (PY j k).length + 1 ≤ 17592186044416 := by rw [HQL.out]; omega
              generalize hA1 : i * K = U1 at *
              generalize hA2 : k * C = U2 at *
              generalize hA3 : U1 + k = V1 at *
              generalize hA4 : U2 + j = V2 at *
              have hV1 : (V1 : Int) < (m : Int) := by omega
              have hV2 : (V2 : Int) < (n : Int) := by omega
              have hi63 : (i : Int) ≤ 64 := by omega
              have hj63 : (j : Int) ≤ 64 := by omega
              have hk63 : (k : Int) ≤ 64 := by omega
              have hSz := HSZ.out
              have hsz := hBj.size
              have HK : Hid (∀ W, Below wj.heap.size wj W → W.cell? ⟨w.heap.size, 1, none⟩ = some (.int .i64 (K : Int)) ∧ W.cell? ⟨w.heap.size, 2, none⟩ = some (.slice (some ⟨S, oa, none⟩) m cap) ∧ W.cell? ⟨S, oa + V1, none⟩ = some (.int .u64 (lim xs V1 : Int))
                ∧ W.cell? ⟨w.heap.size + 1, 1, none⟩ = some (.int .i64 (C : Int)) ∧ W.cell? ⟨w.heap.size + 1, 2, none⟩ = some (.slice (some ⟨T, ob, none⟩) n cap') ∧ W.cell? ⟨T, ob + V2, none⟩ = some (.int .u64 (lim ys V2 : Int))) := Lib.hid (fun W h =>
                ⟨(hG1x.out.behind h).cell (i := 1) rfl, (hG1x.out.behind h).cell (i := 2) rfl, (h.cell (p := ⟨S, oa + V1, none⟩) (by show S < _; omega)).trans ka,
                 (hG2x.out.behind h).cell (i := 1) rfl, (hG2x.out.behind h).cell (i := 2) rfl, (h.cell (p := ⟨T, ob + V2, none⟩) (by show T < _; omega)).trans kb⟩)
              clear ka kb hA1 hA2 hA3 hA4 hP hQ hSz hsz
              generalize lim xs V1 = x at *
              generalize lim ys V2 = y at *
              generalize PX i k = Pk at *
              generalize PY j k = Rk at *
              have HPB : Hid (∀ q, wr.heap.size ≤ q → u9.ownBlock ≠ some q) := Lib.hid (fun q hq e => by have := (World.ownsRow.lt hD.2.1 q e).2; omega)
              go_upto_region 12 with (fail)
              as_aux_lemma =>
                go_region_held3 (fun W => W.cell? ⟨w.heap.size, 1, none⟩ = some (.int .i64 (K : Int)) ∧ W.cell? ⟨w.heap.size, 2, none⟩ = some (.slice (some ⟨S, oa, none⟩) m cap) ∧ W.cell? ⟨S, oa + V1, none⟩ = some (.int .u64 (x : Int))
                  ∧ W.cell? ⟨w.heap.size + 1, 1, none⟩ = some (.int .i64 (C : Int)) ∧ W.cell? ⟨w.heap.size + 1, 2, none⟩ = some (.slice (some ⟨T, ob, none⟩) n cap') ∧ W.cell? ⟨T, ob + V2, none⟩ = some (.int .u64 (y : Int)))
                  (first | with_reducible exact HK.out _ hD.bel | with_reducible exact HK.out _ hD.drew.bel | with_reducible exact HK.out _ (hD.alloc _).bel | with_reducible exact HK.out _ (hD.drew.alloc _).bel | exact HK.out _ (hD.drew.alloc _).bel | with_reducible exact HK.out _ ((hD.drew.alloc _).alloc _).bel | exact HK.out _ (hD.alloc _).bel | exact HK.out _ ((hD.drew.alloc _).alloc _).bel | exact HK.out _ hD.bel)
                  (first
                    | (refine step_duo (by rfl) _ _ (by rfl) (by rfl) (by rfl) (cell_new1 _ _ _) (hD.drew.alloc _) (by omega) ?_; intro p2 w6 hD hKP)
                    | (refine step_duo (by rfl) _ _ (by rfl) (by rfl) (by rfl) (((ms_new _ #[.int .u64 (x : Int)] 32).behind (bel_new _ _)).cell (i := 0) rfl) ((hD.drew.alloc _).alloc _) (by omega) ?_; intro p2 w6 hD hKP)
                    | (refine step_duo (by rfl) _ _ (by rfl) (by rfl) (by rfl) (((ms_two _ _ #[.int .u64 (x : Int)] 32)).cell (i := 0) rfl) ((hD.alloc _).alloc _) (by omega) ?_; intro p2 w6 hD hKP)
                    | (refine step_duo (by rfl) _ _ (by rfl) (by rfl) (by rfl) ((Ms.drew' (ms_two _ _ #[.int .u64 (x : Int)] 32)).cell (i := 0) rfl) (((hD.alloc _).alloc _).drew) (by omega) ?_; intro p2 w6 hD hKP)
                    | (refine step_duo' (by rfl) _ _ (by rfl) (by rfl) (by rfl) (cell_new1 _ _ _) (hD.alloc _) (by omega) ?_; intro r2 w7 hD hKR)
                    | (refine step_duo' (by rfl) _ _ (by rfl) (by rfl) (by rfl) ((hKP _ _ _ (HPB.out _ (Nat.le_refl _)) (((ms_new _ #[.int .u64 (y : Int)] 32)).behind (bel_new _ _))).cell (i := 0) rfl) hD (by omega) ?_; intro r2 w7 hD hKR)
                    | (refine step_duo' (by rfl) _ _ (by rfl) (by rfl) (by rfl) ((hKP _ _ _ (HPB.out _ (Nat.le_refl _)) (Ms.drew' (((ms_new _ #[.int .u64 (y : Int)] 32)).behind (bel_new _ _)))).cell (i := 0) rfl) hD (by omega) ?_; intro r2 w7 hD hKR)
                    | (refine step_duo' (by rfl) _ _ (by rfl) (by rfl) (by rfl) ((hKP _ _ _ (HPB.out _ (Nat.le_succ _)) (ms_two _ _ #[.int .u64 (y : Int)] 32)).cell (i := 0) rfl) hD (by omega) ?_; intro r2 w7 hD hKR)
                    | (refine step_duo' (by rfl) _ _ (by rfl) (by rfl) (by rfl) ((hKP _ _ _ (HPB.out _ (Nat.le_succ _)) (Ms.drew' (ms_two _ _ #[.int .u64 (y : Int)] 32))).cell (i := 0) rfl) hD (by omega) ?_; intro r2 w7 hD hKR)
                    | (fail))
                all_goals
                  go_wp2
                  go_roundw
                  case rel => exact ⟨k + 1, by omega, by simp, by rw [HS1.out, HS2.out]; exact hD⟩
                  case measure => simp [intOf]; omega
            · obtain rfl : k = K := by omega
              have hDb := hD.bel
              have hSz := HSZ.out
              have hsz1 := hBj.size
              have hsz2 := hDb.size
              have hP := (new_zn.2 (hD.2.1.new (by omega))).arg
              have hR := (new_zn.2 (hD.2.2.1.new (by omega))).arg
              have HDT := Lib.hid (vec_dot hP hR (HPW.out i k) (HQW.out j k) (by rw [HPL.out]; omega) (by rw [HQL.out]; omega))
              obtain ⟨e1, e2⟩ := HDE.out i j hlt hjl
              have HE1 := Lib.hid e1
              have HE2 := Lib.hid e2
              have HF1 := Lib.hid (HFN.out (i * C + j) (HIC.out i j hlt hjl))
              have HGS := Lib.hid (rowV_succ (i * C + j) G)
              have hql : (zn (rowV (i * C + j) G)).length + 1 ≤ 17592186044416 := by rw [zn_length, rowV_length]; have := HIC.out i j hlt hjl; have := HRC.out; omega
              clear hkl e1 e2 hP hR hD hSz hsz1 hsz2
              generalize dotE (PX i k) (PY j k) = de at *
              generalize dotR (PX i k) (PY j k) = dr at *
              go_wp2_with fail
              refine HDT.out.mono ?_
              rintro e w8 ⟨rfl, b8⟩
              have hBx := below_both hDb b8
              have ho8 := hoj.below hBx
              have hM8 := hMj.behind hBx
              have hU8 := hUj.below hBx
              have hB8 := below_both hBj hBx
              have hsU := hU8.1
              clear hDb b8 HDT hBx hoj hMj hUj hBj hG1x hG2x c1
              by_cases hc : cls (G (i * C + j)) ≤ 1
              · have hde : de = 0 := by rw [HE1.out, if_pos hc]
                have hdr : dr = G (i * C + j) := HE2.out hc
                subst hde
                have HQ2 : Hid (∀ q, q < i * C + j + 1 → cls (G q) ≤ 1) := Lib.hid (fun q hq => by
                  rcases Nat.lt_or_ge q (i * C + j) with h | h
                  · exact HQ.out q h
                  · obtain rfl : q = i * C + j := by omega
                    exact hc)
                have hc2 : w8.cell? ⟨w.heap.size + 1 + 1 + 1, 2, none⟩ = some d := hM8.cell (i := 2) rfl
                have hSz := HSZ.out
                rw [← hdr] at HGS
                clear hc hdr HE1 HE2 HF1
                go_wp2_with (at_builtin; refine app_u64 rfl _ _ rfl rfl rfl (cell_new1 _ _ _) (ho8.alloc _) hql (by simp; omega) ?_; intro v' w9 ho9 hb9; obtain ⟨a9, c9, rfl⟩ := ho9.len; simp only [List.length_append, List.length_cons, List.length_nil, Nat.zero_add] at ho9; have hb8 := ((Below.refl W6.heap.size w8).alloc hsU _).trans hb9; have hM9 := hM8.below hb8 (by omega); have k2 := hM9.cell (i := 2) rfl; have kf2 := hM9.f 2)
                go_roundw
                case rel => exact ⟨j + 1, _, by omega, by simp, hM9.set 2 _, by rw [← Nat.add_assoc, HGS.out, zn_snoc]; exact ho9.far (p := ⟨w.heap.size + 1 + 1 + 1, 2, none⟩) (by show w.heap.size + 1 + 1 + 1 < _; omega) _, (hU8.low hb8).set 2 _, (hB8.trans (hb8.mono (by omega))).setCell (p := ⟨w.heap.size + 1 + 1 + 1, 2, none⟩) (by show w.heap.size ≤ w.heap.size + 1 + 1 + 1; omega) _, HQ2⟩
                case measure => simp [intOf]; omega
              · have hde : de = 13 := by rw [HE1.out, if_neg hc]
                have HT : Hid (E = 13) := Lib.hid (HF1.out hc)
                subst hde
                have hM3 := hU8.ms HG3.out (by omega)
                have g30 := hM3.cell (i := 0) rfl
                have g31 := hM3.cell (i := 1) rfl
                have g33 := hM3.cell (i := 2) rfl
                have f0 := hM3.f 0
                have f1 := hM3.f 1
                have f2 := hM3.f 2
                have HBc := Lib.hid hB8
                clear hc HE1 HE2 HF1 hM8 hM3 hU8 hB8 ho8
                go_wp2
                exact bodyPost_ret (v := .tuple #[.agg #[.int .i64 0, .int .i64 0, .slice none 0 0], .bool false]) (by simp [results, Try.results50, go_sem, g30, g31, g33]) rfl
                  ⟨0, 0, none, 0, 0, by rw [HT.out]; rfl, by rw [HPM.out.out, if_neg (by rw [HT.out]; decide)]; exact new_nil _ hpos (HBc.out.put3 (by omega) _ _ _), fun h => absurd (HT.out.symm.trans h) (by decide), HBc.out.put3 (by omega) _ _ _⟩
        · obtain rfl : j = C := by omega
          clear hjl hM2
          go_wp2
          go_roundw
          case rel => exact ⟨i + 1, d, by omega, by simp, hM, by rw [Nat.add_mul, Nat.one_mul]; exact ho, hU, hB, by rw [Nat.add_mul, Nat.one_mul]; exact HQ⟩
          case measure => simp [intOf]; omega
    · obtain rfl : i = R := by omega
      have hSz := HSZ.out
      have hM3 := hU.ms HG3.out (by omega)
      have hsz := hB.size
      have HNEW := Lib.hid (new_zn.2 (ho.new (by omega)))
      obtain ⟨a8, c8, e8⟩ := ho.len
      rw [zn_length, rowV_length] at e8
      have HT : Hid (E = 0) := Lib.hid (HFB.out HQ.out)
      subst e8
      have k0 := hM.cell (i := 0) rfl
      have k1 := hM.cell (i := 1) rfl
      have k2 := hM.cell (i := 2) rfl
      have g30 := hM3.cell (i := 0) rfl
      have g31 := hM3.cell (i := 1) rfl
      have g33 := hM3.cell (i := 2) rfl
      have f0 := hM3.f 0
      have f1 := hM3.f 1
      have f2 := hM3.f 2
      have HBc := Lib.hid hB
      have HS3 := Lib.hid hSz
      clear ho hM hU hB hM1 hM3 hlt HQ hSz hsz
      generalize hN : i * C = N at *
      clear hN
      go_wp2
      exact bodyPost_ret (v := .tuple #[.agg #[.int .i64 (i : Int), .int .i64 (C : Int), .slice a8 N c8], .bool true]) (by simp [results, Try.results50, go_sem, g30, g31, g33]) rfl
        ⟨i, C, a8, N, c8, by rw [HT.out]; rfl, by rw [HPM.out.out, if_pos HT.out]; exact (HNEW.out.put3 (by have := HS3.out; omega) _ _ _).lower (by have := HS3.out; omega), fun _ => ⟨rfl, rfl⟩, HBc.out.put3 (by omega) _ _ _⟩
end Go.Proofs.Ytjiilechfjkkfaa

/- gemm.Syrk; vernierlaw21: GemmTells, walked. -/
namespace Go.Proofs.Ytjiilechfjkkfaa
open Go.RowKit Go.Shelf
theorem fin_yes {R C : Int} {xs : List Nat} (h : finM R C xs.length xs = 0) : mayM R C xs.length = true ∧ finB xs xs.length = true := by
  have hm := (finM_ok h).1
  refine ⟨hm, ?_⟩
  rw [finM_may hm] at h
  cases hf : finB xs xs.length
  · rw [hf] at h; exact absurd h (by decide)
  · rfl
theorem fin_turn {R C : Nat} {xs : List Nat} (h : finM R C xs.length xs = 0) : finM C R (R * C) (trl R C xs) = 0 := by
  obtain ⟨hm, hf⟩ := fin_yes h
  obtain ⟨q1, q2, q3, q4, q5⟩ := mayM_iff.1 hm
  have hl : xs.length = R * C := by rw [← Int.natCast_mul] at q5; omega
  have h2 := finM_may (R := (C : Int)) (C := (R : Int)) (ws := trl R C xs) (by rw [trl_length]; exact mayM_iff.2 ⟨q3, q4, q1, q2, by rw [Int.natCast_mul, Int.mul_comm]⟩)
  rw [trl_length] at h2
  rw [h2]
  have h3 := fin_trl (K := R) (C := C) hl hf
  rw [trl_length] at h3
  rw [h3, if_pos rfl]
set_option maxRecDepth 100000 in
set_option maxHeartbeats 8000000 in
/-- Syrk, by what turned tells -/
theorem syrk_by {R C Rt Ct : Int} {a : Option Addr} {m nt cap : Nat} {xs ts : List Nat} {E : Int} {Z : List Nat} {w : World} (hA : Arg w (.slice a m cap) xs) (hx : Low 18446744073709551616 xs) (ht : Low 18446744073709551616 ts)
    (HT : Hid (∀ W, Below w.heap.size w W → Calls Try.prog 89 #[.agg #[.int .i64 R, .int .i64 C, .slice a m cap], .bool true] W fun e W' => ∃ b c, e = .returned (.agg #[.int .i64 Rt, .int .i64 Ct, .slice b nt c]) ∧ Arg W' (.slice b nt c) ts ∧ Below W.heap.size W W'))
    (hE : tellV (mulP R C Ct xs ts) (mulF R C m xs Rt Ct nt ts) = E) (hZ : (if E = 0 then mulP R C Ct xs ts else []) = Z) :
    Calls Try.prog 49 #[.agg #[.int .i64 R, .int .i64 C, .slice a m cap]] w fun e W' => ∃ R2 C2 b n c, e = .returned (.tuple #[.agg #[.int .i64 R2, .int .i64 C2, .slice b n c], .int .i64 E]) ∧ New w.heap.size W' (.slice b n c) Z ∧ (E = 0 → R2 = R ∧ C2 = Ct) ∧ Below w.heap.size w W' := by
  obtain ⟨B, G1, G2, hw1⟩ := vboxm w #[.int .i64 R, .int .i64 C, .slice a m cap] #[.int .i64 0, .int .i64 0, .slice none 0 0] 24 24 _ rfl
  have hM := fun (W : World) (b : Option Addr) (c : Nat) (h : Below w.heap.size w W) (hB : Arg W (.slice b nt c) ts) => gemm_mul (R := R) (C := C) (R' := Rt) (C' := Ct) (hA.behind h) hB hx ht
  rw [hE, hZ] at hM
  have HM := Lib.hid hM
  clear hM hE hZ hA hx ht
  go_enter Try.func49, Try.ntmps49
  go_wp2_with fail
  generalize (w.alloc (.cells #[.int .i64 R, .int .i64 C, .slice a m cap] 24)).alloc (.cells #[.int .i64 0, .int .i64 0, .slice none 0 0] 24) = W0 at *
  have Br : Below W0.heap.size W0 W0 := Below.refl _ _
  have HB := Lib.hid B
  have HG2 := Lib.hid G2
  have HK : Hid (∀ W, Below W0.heap.size W0 W → W.cell? ⟨w.heap.size, 0, none⟩ = some (.int .i64 R) ∧ W.cell? ⟨w.heap.size, 1, none⟩ = some (.int .i64 C) ∧ W.cell? ⟨w.heap.size, 2, none⟩ = some (.slice a m cap)) := Lib.hid (fun W h => ⟨(G1.behind h).cell (i := 0) rfl, (G1.behind h).cell (i := 1) rfl, (G1.behind h).cell (i := 2) rfl⟩)
  have HKS : Hid (∀ W x y z, Below W0.heap.size W0 W → (((W.setCell ⟨w.heap.size + 1, 0, none⟩ x).setCell ⟨w.heap.size + 1, 1, none⟩ y).setCell ⟨w.heap.size + 1, 2, none⟩ z).cell? ⟨w.heap.size, 0, none⟩ = some (.int .i64 R) ∧ (((W.setCell ⟨w.heap.size + 1, 0, none⟩ x).setCell ⟨w.heap.size + 1, 1, none⟩ y).setCell ⟨w.heap.size + 1, 2, none⟩ z).cell? ⟨w.heap.size, 1, none⟩ = some (.int .i64 C) ∧ (((W.setCell ⟨w.heap.size + 1, 0, none⟩ x).setCell ⟨w.heap.size + 1, 1, none⟩ y).setCell ⟨w.heap.size + 1, 2, none⟩ z).cell? ⟨w.heap.size, 2, none⟩ = some (.slice a m cap)) := Lib.hid (fun W x y z h =>
    have hne : w.heap.size ≠ w.heap.size + 1 := by omega
    ⟨cell_off (cell_off (cell_off (HK.out W h).1 hne) hne) hne, cell_off (cell_off (cell_off (HK.out W h).2.1 hne) hne) hne, cell_off (cell_off (cell_off (HK.out W h).2.2 hne) hne) hne⟩)
  clear G1 G2 B
  go_region_held3 (fun W => W.cell? ⟨w.heap.size, 0, none⟩ = some (.int .i64 R) ∧ W.cell? ⟨w.heap.size, 1, none⟩ = some (.int .i64 C) ∧ W.cell? ⟨w.heap.size, 2, none⟩ = some (.slice a m cap))
    (first | with_reducible exact HK.out _ Br | with_reducible exact HK.out _ Br.drew | with_reducible exact HKS.out _ _ _ _ Br | with_reducible exact HKS.out _ _ _ _ Br.drew | exact HKS.out _ _ _ _ Br | exact HK.out _ Br)
    (first
      | (go_at_call 89; (with_reducible refine (HT.out _ (by first | with_reducible exact below_both HB.out Br | with_reducible exact below_both HB.out Br.drew)).mono ?_); rintro e v4 ⟨bt, ct, rfl, hAt, bz⟩; replace Br : Below W0.heap.size W0 v4 := (by first | with_reducible exact below_both Br bz | with_reducible exact below_both Br.drew bz); clear bz; have HS4 := Lib.hid Br.size)
      | (go_at_call 48; (with_reducible refine (HM.out _ _ _ (by first | with_reducible exact below_both HB.out Br | with_reducible exact below_both HB.out Br.drew) (by first | with_reducible exact hAt | exact hAt.behind (Below.refl _ _).drew)).mono ?_); rintro e v5 ⟨R2, C2, b8, n8, c8, rfl, hN, hR, bz⟩; replace Br : Below W0.heap.size W0 v5 := (by first | with_reducible exact below_both Br bz | with_reducible exact below_both Br.drew bz); clear bz; have G4 := HG2.out.behind Br; have g0 := G4.cell (i := 0) rfl; have g1 := G4.cell (i := 1) rfl; have g2 := G4.cell (i := 2) rfl; have f0 := G4.f 0; have f1 := G4.f 1; have f2 := G4.f 2; have HNN := Lib.hid (show New v4.heap.size v5 _ _ from hN); have HRR := Lib.hid hR; clear hN hR G4))
  all_goals
    have HBB := Lib.hid (below_both HB.out Br)
    go_wp2
    exact bodyPost_ret (v := .tuple #[.agg #[.int .i64 R2, .int .i64 C2, .slice b8 n8 c8], .int .i64 E]) (by simp [results, Try.results49, go_sem, g0, g1, g2]) rfl
      ⟨R2, C2, b8, n8, c8, rfl, (HNN.out.put3 (by have := HG2.out.lt; have := HS4.out; omega) _ _ _).lower (by have := HG2.out.lt; have := HS4.out; omega), HRR.out, HBB.out.put3 (by omega) _ _ _⟩
def syP (R C : Int) (xs : List Nat) : List Nat := mulP R C R xs (trl R.toNat C.toNat xs)
theorem gemm_syrk {R C : Int} {a : Option Addr} {m cap : Nat} {xs : List Nat} {w : World} (hA : Arg w (.slice a m cap) xs) (hx : Low 18446744073709551616 xs) :
    Calls Try.prog 49 #[.agg #[.int .i64 R, .int .i64 C, .slice a m cap]] w fun e W' => ∃ R2 C2 b n c, e = .returned (.tuple #[.agg #[.int .i64 R2, .int .i64 C2, .slice b n c], .int .i64 (tellV (syP R C xs) (finM R C m xs))]) ∧ New w.heap.size W' (.slice b n c) (if tellV (syP R C xs) (finM R C m xs) = 0 then syP R C xs else []) ∧ (tellV (syP R C xs) (finM R C m xs) = 0 → R2 = R ∧ C2 = R) ∧ Below w.heap.size w W' := by
  have hpos : 0 < w.heap.size := by obtain ⟨S, hS, _⟩ := hA; omega
  have hmx : m = xs.length := by
    obtain ⟨a', c', e⟩ := hA.slice
    simp only [Value.slice.injEq] at e
    omega
  cases hm : mayM R C m with
  | true =>
    obtain ⟨q1, q2, q3, q4, q5⟩ := mayM_iff.1 hm
    obtain ⟨r, rfl⟩ : ∃ r : Nat, R = r := ⟨R.toNat, by omega⟩
    obtain ⟨c, rfl⟩ : ∃ r : Nat, C = r := ⟨C.toNat, by omega⟩
    have hF : mulF r c m xs c r (r * c) (trl r c xs) = finM r c m xs := by
      unfold mulF
      rw [if_neg (by simp)]
      by_cases h : finM r c m xs = 0
      · rw [hmx] at h ⊢
        rw [h, fin_turn h]; rfl
      · unfold firstE; rw [if_pos h]
    refine syrk_by (Rt := c) (Ct := r) (nt := r * c) (ts := trl r c xs) hA hx (trl_low hx) (Lib.hid fun W h => ?_) (by rw [hF]; rfl) (by rfl)
    exact (gemm_turned (hA.behind h) hx hm).mono fun e W' ⟨b, c', h1, h2, h3⟩ => ⟨b, c', h1, h2.arg, h3⟩
  | false =>
    have hne : finM R C m xs ≠ 0 := fun h => by rw [(finM_ok h).1] at hm; cases hm
    have hF : mulF R C m xs 0 0 0 [] = finM R C m xs := by unfold mulF firstE; rw [if_pos hne]
    have hT : ∀ ws, tellV ws (finM R C m xs) = finM R C m xs := fun ws => by unfold tellV; rw [if_pos hne]
    rw [hT, if_neg hne]
    refine (syrk_by (Rt := 0) (Ct := 0) (nt := 0) (ts := []) (E := finM R C m xs) (Z := []) hA hx (fun y hy => by cases hy) (Lib.hid fun W h => ?_) (by rw [hF, hT]) (by rw [if_neg hne])).mono ?_
    · exact (gemm_turned_no hm).mono fun e W' ⟨h1, h2⟩ => ⟨none, 0, h1, (new_nil (n := 0) _ (show 0 < W.heap.size by have := h.size; omega) h2).arg, h2⟩
    · rintro e W' ⟨R2, C2, b, n, c, h1, h2, h3, h4⟩
      exact ⟨R2, C2, b, n, c, h1, h2, fun h => absurd h hne, h4⟩
theorem sameM_self (R C : Int) (xs : List Nat) : sameM R C R C xs xs = true := by unfold sameM; simp
set_option maxRecDepth 100000 in
set_option maxHeartbeats 16000000 in
theorem gemmTells_calls {R C R' C' : Int} {a a' : Option Addr} {m m' cap cap' : Nat} {xs ys : List Nat} {w : World} (hA : Arg w (.slice a m cap) xs) (hA' : Arg w (.slice a' m' cap') ys) (hx : Low 18446744073709551616 xs) (hy : Low 18446744073709551616 ys) :
    Calls Try.prog 11 #[.agg #[.int .i64 R, .int .i64 C, .slice a m cap], .agg #[.int .i64 R', .int .i64 C', .slice a' m' cap']] w fun e W' => e = .returned (.bool true) ∧ Below w.heap.size w W' := by
  obtain ⟨B, G1, G2, hw1⟩ := vboxm w #[.int .i64 R, .int .i64 C, .slice a m cap] #[.int .i64 R', .int .i64 C', .slice a' m' cap'] 24 24 _ rfl
  have hal := l21_alive
  have hmx : m = xs.length := by
    obtain ⟨a8, c8, e⟩ := hA.slice
    simp only [Value.slice.injEq] at e
    omega
  have hmy : m' = ys.length := by
    obtain ⟨a8, c8, e⟩ := hA'.slice
    simp only [Value.slice.injEq] at e
    omega
  have hF1 := fun (W : World) (h : Below w.heap.size w W) => shape_finite (R := R) (C := C) (hA.behind h) hx
  have hF2 := fun (W : World) (h : Below w.heap.size w W) => shape_finite (R := R') (C := C') (hA'.behind h) hy
  have hMU := fun (W : World) (h : Below w.heap.size w W) => gemm_mul (R := R) (C := C) (R' := R') (C' := C') (hA.behind h) (hA'.behind h) hx hy
  have hSY := fun (W : World) (h : Below w.heap.size w W) => gemm_syrk (R := R) (C := C) (hA.behind h) hx
  obtain ⟨E1, hE1⟩ : ∃ E, E = tellV (mulP R C C' xs ys) (mulF R C m xs R' C' m' ys) := ⟨_, rfl⟩
  obtain ⟨Z1, hZ1⟩ : ∃ Z, Z = if E1 = 0 then mulP R C C' xs ys else [] := ⟨_, rfl⟩
  obtain ⟨E2, hE2⟩ : ∃ E, E = tellV (syP R C xs) (finM R C m xs) := ⟨_, rfl⟩
  obtain ⟨Z2, hZ2⟩ : ∃ Z, Z = if E2 = 0 then syP R C xs else [] := ⟨_, rfl⟩
  rw [← hE1, ← hZ1] at hMU
  rw [← hE2, ← hZ2] at hSY
  have HMU := Lib.hid hMU
  have HSY := Lib.hid hSY
  clear hMU hSY
  by_cases hf : finM R C m xs = 0
  · obtain ⟨hm, hfx⟩ := fin_yes (by rw [← hmx]; exact hf)
    obtain ⟨q1, q2, q3, q4, q5⟩ := mayM_iff.1 hm
    obtain ⟨r, hr⟩ : ∃ r : Nat, R = r := ⟨R.toNat, by omega⟩
    obtain ⟨c, hc⟩ : ∃ r : Nat, C = r := ⟨C.toNat, by omega⟩
    have hmn : m = r * c := by rw [hr, hc, ← Int.natCast_mul] at q5; omega
    have hrr : r * r ≤ 4096 := by have := Nat.mul_le_mul (show r ≤ 64 by omega) (show r ≤ 64 by omega); omega
    have hT := fun (W : World) (h : Below w.heap.size w W) => shape_turn (R := r) (C := c) (hA.behind h) hx (by rw [← hr, ← hc, hmx]; exact hm)
    have hP1 := fun (W : World) (b : Option Addr) (cc : Nat) (h : Below w.heap.size w W) (hb : Arg W (.slice b (r * c) cc) (trl r c xs)) => l21_product (R := r) (K := c) (C := r) (hA.behind h) hb hx (trl_low hx) (by rw [← hr, ← hc]; exact hf) (fin_turn (by rw [← hr, ← hc, ← hmx]; exact hf))
    have hP2 := fun (c' : Nat) (W : World) (h : Below w.heap.size w W) (h1 : finM c c' m' ys = 0) => l21_product (R := r) (K := c) (C := c') (hA.behind h) (hA'.behind h) hx hy (by rw [← hr, ← hc]; exact hf) h1
    have hQ : syP R C xs = prodM r c r xs (trl r c xs) := by rw [hr, hc]; rfl
    have hQl : (prodM r c r xs (trl r c xs)).length ≤ 17592186044416 := by rw [prodM_length]; omega
    rw [hf, hQ] at hE2
    rw [hQ] at hZ2
    rw [← hE2, ← hZ2] at hP1
    have HWE2 : Hid ((E2 = 0 ∧ Z2 = prodM r c r xs (trl r c xs)) ∨ E2 = 13) := Lib.hid (by
      rcases tellV_ways (prodM r c r xs (trl r c xs)) 0 with ⟨h, _⟩ | ⟨_, _, h⟩ | ⟨_, _, h⟩
      · exact absurd rfl h
      · rw [h] at hE2; exact .inl ⟨hE2, by rw [hZ2, if_pos hE2]⟩
      · rw [h] at hE2; exact .inr hE2)
    have HQL := Lib.hid hQl
    generalize prodM r c r xs (trl r c xs) = Q at *
    have HB1 : Hid (finM R' C' m' ys ≠ 0 → E1 = finM R' C' m' ys ∧ Z1 = []) := Lib.hid (fun h => by
      have : E1 = finM R' C' m' ys := by
        rw [hE1]; unfold mulF firstE; rw [if_neg (by simp [hf]), if_pos h]; unfold tellV; rw [if_pos h]
      exact ⟨this, by rw [hZ1, if_neg (by rw [this]; exact h)]⟩)
    have HB2 : Hid (finM R' C' m' ys = 0 → C ≠ R' → E1 = 11 ∧ Z1 = []) := Lib.hid (fun h h2 => by
      have : E1 = 11 := by
        rw [hE1]; unfold mulF firstE; rw [if_neg (by simp [hf]), if_neg (by simp [h]), if_pos h2]; rfl
      exact ⟨this, by rw [hZ1, if_neg (by rw [this]; decide)]⟩)
    have HB3 : Hid (finM R' C' m' ys = 0 → C = R' → ∃ c' : Nat, C' = c' ∧ finM c c' m' ys = 0 ∧ E1 = tellV (prodM r c c' xs ys) 0 ∧ Z1 = (if tellV (prodM r c c' xs ys) 0 = 0 then prodM r c c' xs ys else []) ∧ (prodM r c c' xs ys).length ≤ 17592186044416) := Lib.hid (fun h h2 => by
      obtain ⟨hm2, _⟩ := fin_yes (by rw [← hmy]; exact h)
      obtain ⟨p1, p2, p3, p4, p5⟩ := mayM_iff.1 hm2
      obtain ⟨c', hc'⟩ : ∃ r : Nat, C' = r := ⟨C'.toNat, by omega⟩
      have hM : mulP R C C' xs ys = prodM r c c' xs ys := by rw [hr, hc, hc']; rfl
      have e1 : E1 = tellV (prodM r c c' xs ys) 0 := by
        rw [hE1, hM]; unfold mulF firstE; rw [if_neg (by simp [hf]), if_neg (by simp [h]), if_neg (by simp [h2])]
      have := Nat.mul_le_mul (show r ≤ 64 by omega) (show c' ≤ 64 by omega)
      exact ⟨c', hc', by rw [← hc, h2, ← hc']; exact h, e1, by rw [hZ1, hM, e1], by rw [prodM_length]; omega⟩)
    have HT := Lib.hid hT
    have HP1 := Lib.hid hP1
    have HP2 := Lib.hid hP2
    have HTN := Lib.hid (And.intro hr hc)
    rw [hf] at hF1
    have HF1 := Lib.hid hF1
    have HF2 := Lib.hid hF2
    generalize hgb : finM R' C' m' ys = g at *
    have HGB := Lib.hid hgb
    subst hr hc
    clear hT hP1 hP2 hF1 hF2 hA hA' hx hy hfx hm hE1 hZ1 hE2 hZ2 hQ hQl hmn hrr hf hmx hmy hgb q1 q2 q3 q4 q5
    have c0 := G1.cell (i := 0) rfl
    have c1 := G1.cell (i := 1) rfl
    have c2 := G1.cell (i := 2) rfl
    have d0 := G2.cell (i := 0) rfl
    have d1 := G2.cell (i := 1) rfl
    have d2 := G2.cell (i := 2) rfl
    go_enter Try.func11, Try.ntmps11
    go_wp2_with fail
    generalize (w.alloc (.cells #[.int .i64 (r : Int), .int .i64 (c : Int), .slice a m cap] 24)).alloc (.cells #[.int .i64 R', .int .i64 C', .slice a' m' cap'] 24) = W0 at *
    refine (hal _).mono ?_
    rintro e w1 ⟨rfl, b1⟩
    replace B := below_both B b1
    replace G1 := G1.behind b1
    replace G2 := G2.behind b1
    have c0 := G1.cell (i := 0) rfl
    have c1 := G1.cell (i := 1) rfl
    have c2 := G1.cell (i := 2) rfl
    have d0 := G2.cell (i := 0) rfl
    have d1 := G2.cell (i := 1) rfl
    have d2 := G2.cell (i := 2) rfl
    clear b1
    go_wp2_with fail
    refine (HMU.out _ B).mono ?_
    rintro e w2 ⟨R2, C2, b5, n5, c5, rfl, hN5, hR5, k5⟩
    have A5 := hN5.arg
    have HR5 := Lib.hid hR5
    obtain ⟨j5, K5⟩ := mbox w2 #[.int .i64 R2, .int .i64 C2, .slice b5 n5 c5] 24 _ rfl
    replace A5 := A5.behind j5
    have i5 := below_both k5 j5
    replace B := below_both B i5
    replace G1 := G1.behind i5
    replace G2 := G2.behind i5
    have c0 := G1.cell (i := 0) rfl
    have c1 := G1.cell (i := 1) rfl
    have c2 := G1.cell (i := 2) rfl
    have d0 := G2.cell (i := 0) rfl
    have d1 := G2.cell (i := 1) rfl
    have d2 := G2.cell (i := 2) rfl
    clear hN5 hR5 k5 j5 i5
    go_wp2_with fail
    generalize w2.alloc (.cells #[.int .i64 R2, .int .i64 C2, .slice b5 n5 c5] 24) = w3 at *
    refine (HSY.out _ B).mono ?_
    rintro e w4 ⟨R3, C3, b7, n7, c7, rfl, hN7, hR7, k7⟩
    have A7 := hN7.arg
    have HR7 := Lib.hid hR7
    obtain ⟨j7, K7⟩ := mbox w4 #[.int .i64 R3, .int .i64 C3, .slice b7 n7 c7] 24 _ rfl
    replace A7 := A7.behind j7
    have i7 := below_both k7 j7
    replace B := below_both B i7
    replace G1 := G1.behind i7
    replace G2 := G2.behind i7
    replace A5 := A5.behind i7
    replace K5 := K5.behind i7
    have c0 := G1.cell (i := 0) rfl
    have c1 := G1.cell (i := 1) rfl
    have c2 := G1.cell (i := 2) rfl
    have d0 := G2.cell (i := 0) rfl
    have d1 := G2.cell (i := 1) rfl
    have d2 := G2.cell (i := 2) rfl
    clear hN7 hR7 k7 j7 i7
    go_wp2_with fail
    generalize w4.alloc (.cells #[.int .i64 R3, .int .i64 C3, .slice b7 n7 c7] 24) = w5 at *
    refine (HF1.out _ B).mono ?_
    rintro e w6 ⟨rfl, b6⟩
    replace B := below_both B b6
    replace G1 := G1.behind b6
    replace G2 := G2.behind b6
    replace A5 := A5.behind b6
    replace K5 := K5.behind b6
    replace A7 := A7.behind b6
    replace K7 := K7.behind b6
    have c0 := G1.cell (i := 0) rfl
    have c1 := G1.cell (i := 1) rfl
    have c2 := G1.cell (i := 2) rfl
    have d0 := G2.cell (i := 0) rfl
    have d1 := G2.cell (i := 1) rfl
    have d2 := G2.cell (i := 2) rfl
    clear b6
    go_wp2_with fail
    refine (HT.out _ B).mono ?_
    rintro e w7 ⟨b9, c9, rfl, hN9, k9⟩
    have A9 := hN9.arg
    obtain ⟨j9, K9⟩ := mbox w7 #[.int .i64 (c : Int), .int .i64 (r : Int), .slice b9 (r * c) c9] 24 _ rfl
    replace A9 := A9.behind j9
    have i9 := below_both k9 j9
    replace B := below_both B i9
    replace G1 := G1.behind i9
    replace G2 := G2.behind i9
    replace A5 := A5.behind i9
    replace K5 := K5.behind i9
    replace A7 := A7.behind i9
    replace K7 := K7.behind i9
    have c0 := G1.cell (i := 0) rfl
    have c1 := G1.cell (i := 1) rfl
    have c2 := G1.cell (i := 2) rfl
    have d0 := G2.cell (i := 0) rfl
    have d1 := G2.cell (i := 1) rfl
    have d2 := G2.cell (i := 2) rfl
    have u0 := K9.cell (i := 0) rfl
    have u1 := K9.cell (i := 1) rfl
    have u2 := K9.cell (i := 2) rfl
    clear hN9 k9 j9 i9 HT
    go_wp2_with fail
    generalize w7.alloc (.cells #[.int .i64 (c : Int), .int .i64 (r : Int), .slice b9 (r * c) c9] 24) = w8 at *
    refine (HP1.out _ _ _ B A9).mono ?_
    rintro e w9 ⟨R4, C4, b11, n11, c11, rfl, hN11, hR11, k11⟩
    have A11 := hN11.arg
    obtain ⟨j11, K11⟩ := mbox w9 #[.int .i64 R4, .int .i64 C4, .slice b11 n11 c11] 24 _ rfl
    replace A11 := A11.behind j11
    have i11 := below_both k11 j11
    replace B := below_both B i11
    replace G1 := G1.behind i11
    replace G2 := G2.behind i11
    replace A5 := A5.behind i11
    replace K5 := K5.behind i11
    replace A7 := A7.behind i11
    replace K7 := K7.behind i11
    have c0 := G1.cell (i := 0) rfl
    have c1 := G1.cell (i := 1) rfl
    have c2 := G1.cell (i := 2) rfl
    have d0 := G2.cell (i := 0) rfl
    have d1 := G2.cell (i := 1) rfl
    have d2 := G2.cell (i := 2) rfl
    have s0 := K7.cell (i := 0) rfl
    have s1 := K7.cell (i := 1) rfl
    have s2 := K7.cell (i := 2) rfl
    have x0 := K11.cell (i := 0) rfl
    have x1 := K11.cell (i := 1) rfl
    have x2 := K11.cell (i := 2) rfl
    have HR11 := Lib.hid hR11
    clear hN11 hR11 k11 j11 i11 HP1 A9 K9 u0 u1 u2
    rcases HWE2.out with ⟨he2, hz2⟩ | he2
    · as_aux_lemma =>
        subst he2 hz2
        obtain ⟨rfl, rfl⟩ := HR11.out rfl
        obtain ⟨rfl, rfl⟩ := HR7.out rfl
        have HS := Lib.hid (shape_same (R := (r : Int)) (C := (r : Int)) (R' := (r : Int)) (C' := (r : Int)) A7 A11 HQL.out HQL.out)
        rw [sameM_self] at HS
        go_wp2_with fail
        refine HS.out.mono ?_
        rintro e w14 ⟨rfl, b14⟩
        replace B := below_both B b14
        replace G1 := G1.behind b14
        replace G2 := G2.behind b14
        replace A5 := A5.behind b14
        replace K5 := K5.behind b14
        replace A7 := A7.behind b14
        replace K7 := K7.behind b14
        replace A11 := A11.behind b14
        replace K11 := K11.behind b14
        have c0 := G1.cell (i := 0) rfl
        have c1 := G1.cell (i := 1) rfl
        have c2 := G1.cell (i := 2) rfl
        have d0 := G2.cell (i := 0) rfl
        have d1 := G2.cell (i := 1) rfl
        have d2 := G2.cell (i := 2) rfl
        clear b14 HS
        go_wp2_with fail
        refine (HF2.out _ B).mono ?_
        rintro e w15 ⟨rfl, b15⟩
        replace B := below_both B b15
        replace G1 := G1.behind b15
        replace G2 := G2.behind b15
        replace A5 := A5.behind b15
        replace K5 := K5.behind b15
        replace A7 := A7.behind b15
        replace K7 := K7.behind b15
        replace A11 := A11.behind b15
        replace K11 := K11.behind b15
        have c0 := G1.cell (i := 0) rfl
        have c1 := G1.cell (i := 1) rfl
        have c2 := G1.cell (i := 2) rfl
        have d0 := G2.cell (i := 0) rfl
        have d1 := G2.cell (i := 1) rfl
        have d2 := G2.cell (i := 2) rfl
        have v0 := K5.cell (i := 0) rfl
        have v1 := K5.cell (i := 1) rfl
        have v2 := K5.cell (i := 2) rfl
        clear b15
        by_cases hg : g = 0
        · subst hg
          by_cases hc : (c : Int) = R'
          · obtain ⟨c', hc', hf3, he1, hz1, hl1⟩ := HB3.out rfl hc
            have dq : ((c : Int) != R') = false := by simp [hc]
            have hp2 := HP2.out c' _ B hf3
            rw [← hz1, ← he1] at hp2
            have HWE : Hid ((E1 = 0 ∧ Z1 = prodM r c c' xs ys) ∨ (E1 = 13 ∧ Z1 = [])) := Lib.hid (by
              rcases tellV_ways (prodM r c c' xs ys) 0 with ⟨h, _⟩ | ⟨_, _, h⟩ | ⟨_, _, h⟩
              · exact absurd rfl h
              · rw [h] at he1 hz1; exact .inl ⟨he1, by rw [hz1, if_pos rfl]⟩
              · rw [h] at he1 hz1; exact .inr ⟨he1, by rw [hz1, if_neg (by decide)]⟩)
            have HL1 := Lib.hid hl1
            have HP := Lib.hid hp2
            generalize prodM r c c' xs ys = P at *
            subst hc hc'
            clear he1 hz1 hl1 hp2 hf3
            go_wp2_with fail
            refine HP.out.mono ?_
            rintro e w20 ⟨R6, C6, b13, n13, c13, rfl, hN13, hR13, k13⟩
            have A13 := hN13.arg
            obtain ⟨j13, K13⟩ := mbox w20 #[.int .i64 R6, .int .i64 C6, .slice b13 n13 c13] 24 _ rfl
            replace A13 := A13.behind j13
            have i13 := below_both k13 j13
            replace B := below_both B i13
            replace G1 := G1.behind i13
            replace G2 := G2.behind i13
            replace A5 := A5.behind i13
            replace K5 := K5.behind i13
            replace A7 := A7.behind i13
            replace K7 := K7.behind i13
            replace A11 := A11.behind i13
            replace K11 := K11.behind i13
            have v0 := K5.cell (i := 0) rfl
            have v1 := K5.cell (i := 1) rfl
            have v2 := K5.cell (i := 2) rfl
            have y0 := K13.cell (i := 0) rfl
            have y1 := K13.cell (i := 1) rfl
            have y2 := K13.cell (i := 2) rfl
            clear k13 j13 i13 hN13 HP
            rcases HWE.out with ⟨he1, hz1⟩ | ⟨he1, hz1⟩
            · subst he1 hz1
              obtain ⟨rfl, rfl⟩ := hR13 rfl
              obtain ⟨rfl, rfl⟩ := HR5.out rfl
              have HS := Lib.hid (shape_same (R := (r : Int)) (C := (c' : Int)) (R' := (r : Int)) (C' := (c' : Int)) A5 A13 HL1.out HL1.out)
              rw [sameM_self] at HS
              clear hR13
              go_wp2_with fail
              refine HS.out.mono ?_
              rintro e w21 ⟨rfl, b21⟩
              have HBB := Lib.hid (below_both B b21)
              go_wp2
              go_ret
              exact ⟨rfl, HBB.out⟩
            · subst he1 hz1
              obtain rfl : n5 = 0 := by
                obtain ⟨a8, c8, e8⟩ := A5.slice
                simp only [Value.slice.injEq, List.length_nil] at e8
                exact e8.2.1
              have HBB := Lib.hid B
              go_wp2
              go_ret
              exact ⟨rfl, HBB.out⟩
          · obtain ⟨he1, hz1⟩ := HB2.out rfl hc
            subst he1 hz1
            obtain rfl : n5 = 0 := by
              obtain ⟨a8, c8, e8⟩ := A5.slice
              simp only [Value.slice.injEq, List.length_nil] at e8
              exact e8.2.1
            have dq : ((c : Int) != R') = true := bne_iff_ne.2 hc
            have HBB := Lib.hid B
            clear hc
            go_wp2
            go_ret
            exact ⟨rfl, HBB.out⟩
        · obtain ⟨he1, hz1⟩ := HB1.out hg
          have dg : (g != 0) = true := bne_iff_ne.2 hg
          have dh : (g == g) = true := by simp
          subst he1 hz1
          obtain rfl : n5 = 0 := by
            obtain ⟨a8, c8, e8⟩ := A5.slice
            simp only [Value.slice.injEq, List.length_nil] at e8
            exact e8.2.1
          clear hg
          go_wp2_with fail
          refine (HF2.out _ B).mono ?_
          rintro e w20 ⟨rfl, b20⟩
          replace B := below_both B b20
          replace G1 := G1.behind b20
          replace G2 := G2.behind b20
          replace A5 := A5.behind b20
          replace K5 := K5.behind b20
          replace A7 := A7.behind b20
          replace K7 := K7.behind b20
          replace A11 := A11.behind b20
          replace K11 := K11.behind b20
          have v0 := K5.cell (i := 0) rfl
          have v1 := K5.cell (i := 1) rfl
          have v2 := K5.cell (i := 2) rfl
          have HBB := Lib.hid B
          go_wp2
          go_ret
          exact ⟨rfl, HBB.out⟩
    · as_aux_lemma =>
        subst he2
        go_wp2_with fail
        refine (HF2.out _ B).mono ?_
        rintro e w15 ⟨rfl, b15⟩
        replace B := below_both B b15
        replace G1 := G1.behind b15
        replace G2 := G2.behind b15
        replace A5 := A5.behind b15
        replace K5 := K5.behind b15
        replace A7 := A7.behind b15
        replace K7 := K7.behind b15
        replace A11 := A11.behind b15
        replace K11 := K11.behind b15
        have c0 := G1.cell (i := 0) rfl
        have c1 := G1.cell (i := 1) rfl
        have c2 := G1.cell (i := 2) rfl
        have d0 := G2.cell (i := 0) rfl
        have d1 := G2.cell (i := 1) rfl
        have d2 := G2.cell (i := 2) rfl
        have v0 := K5.cell (i := 0) rfl
        have v1 := K5.cell (i := 1) rfl
        have v2 := K5.cell (i := 2) rfl
        clear b15
        by_cases hg : g = 0
        · subst hg
          by_cases hc : (c : Int) = R'
          · obtain ⟨c', hc', hf3, he1, hz1, hl1⟩ := HB3.out rfl hc
            have dq : ((c : Int) != R') = false := by simp [hc]
            have hp2 := HP2.out c' _ B hf3
            rw [← hz1, ← he1] at hp2
            have HWE : Hid ((E1 = 0 ∧ Z1 = prodM r c c' xs ys) ∨ (E1 = 13 ∧ Z1 = [])) := Lib.hid (by
              rcases tellV_ways (prodM r c c' xs ys) 0 with ⟨h, _⟩ | ⟨_, _, h⟩ | ⟨_, _, h⟩
              · exact absurd rfl h
              · rw [h] at he1 hz1; exact .inl ⟨he1, by rw [hz1, if_pos rfl]⟩
              · rw [h] at he1 hz1; exact .inr ⟨he1, by rw [hz1, if_neg (by decide)]⟩)
            have HL1 := Lib.hid hl1
            have HP := Lib.hid hp2
            generalize prodM r c c' xs ys = P at *
            subst hc hc'
            clear he1 hz1 hl1 hp2 hf3
            go_wp2_with fail
            refine HP.out.mono ?_
            rintro e w20 ⟨R6, C6, b13, n13, c13, rfl, hN13, hR13, k13⟩
            have A13 := hN13.arg
            obtain ⟨j13, K13⟩ := mbox w20 #[.int .i64 R6, .int .i64 C6, .slice b13 n13 c13] 24 _ rfl
            replace A13 := A13.behind j13
            have i13 := below_both k13 j13
            replace B := below_both B i13
            replace G1 := G1.behind i13
            replace G2 := G2.behind i13
            replace A5 := A5.behind i13
            replace K5 := K5.behind i13
            replace A7 := A7.behind i13
            replace K7 := K7.behind i13
            replace A11 := A11.behind i13
            replace K11 := K11.behind i13
            have v0 := K5.cell (i := 0) rfl
            have v1 := K5.cell (i := 1) rfl
            have v2 := K5.cell (i := 2) rfl
            have y0 := K13.cell (i := 0) rfl
            have y1 := K13.cell (i := 1) rfl
            have y2 := K13.cell (i := 2) rfl
            clear k13 j13 i13 hN13 HP
            rcases HWE.out with ⟨he1, hz1⟩ | ⟨he1, hz1⟩
            · subst he1 hz1
              obtain ⟨rfl, rfl⟩ := hR13 rfl
              obtain ⟨rfl, rfl⟩ := HR5.out rfl
              have HS := Lib.hid (shape_same (R := (r : Int)) (C := (c' : Int)) (R' := (r : Int)) (C' := (c' : Int)) A5 A13 HL1.out HL1.out)
              rw [sameM_self] at HS
              clear hR13
              go_wp2_with fail
              refine HS.out.mono ?_
              rintro e w21 ⟨rfl, b21⟩
              have HBB := Lib.hid (below_both B b21)
              go_wp2
              go_ret
              exact ⟨rfl, HBB.out⟩
            · subst he1 hz1
              obtain rfl : n5 = 0 := by
                obtain ⟨a8, c8, e8⟩ := A5.slice
                simp only [Value.slice.injEq, List.length_nil] at e8
                exact e8.2.1
              have HBB := Lib.hid B
              go_wp2
              go_ret
              exact ⟨rfl, HBB.out⟩
          · obtain ⟨he1, hz1⟩ := HB2.out rfl hc
            subst he1 hz1
            obtain rfl : n5 = 0 := by
              obtain ⟨a8, c8, e8⟩ := A5.slice
              simp only [Value.slice.injEq, List.length_nil] at e8
              exact e8.2.1
            have dq : ((c : Int) != R') = true := bne_iff_ne.2 hc
            have HBB := Lib.hid B
            clear hc
            go_wp2
            go_ret
            exact ⟨rfl, HBB.out⟩
        · obtain ⟨he1, hz1⟩ := HB1.out hg
          have dg : (g != 0) = true := bne_iff_ne.2 hg
          have dh : (g == g) = true := by simp
          subst he1 hz1
          obtain rfl : n5 = 0 := by
            obtain ⟨a8, c8, e8⟩ := A5.slice
            simp only [Value.slice.injEq, List.length_nil] at e8
            exact e8.2.1
          clear hg
          go_wp2_with fail
          refine (HF2.out _ B).mono ?_
          rintro e w20 ⟨rfl, b20⟩
          replace B := below_both B b20
          replace G1 := G1.behind b20
          replace G2 := G2.behind b20
          replace A5 := A5.behind b20
          replace K5 := K5.behind b20
          replace A7 := A7.behind b20
          replace K7 := K7.behind b20
          replace A11 := A11.behind b20
          replace K11 := K11.behind b20
          have v0 := K5.cell (i := 0) rfl
          have v1 := K5.cell (i := 1) rfl
          have v2 := K5.cell (i := 2) rfl
          have HBB := Lib.hid B
          go_wp2
          go_ret
          exact ⟨rfl, HBB.out⟩
  · have he1 : E1 = finM R C m xs := by
      rw [hE1]; unfold mulF firstE; rw [if_pos hf]; unfold tellV; rw [if_pos hf]
    have he2 : E2 = finM R C m xs := by
      rw [hE2]; unfold tellV; rw [if_pos hf]
    have hz1 : Z1 = [] := by rw [hZ1, if_neg (by rw [he1]; exact hf)]
    have hz2 : Z2 = [] := by rw [hZ2, if_neg (by rw [he2]; exact hf)]
    have dg : (finM R C m xs != 0) = true := bne_iff_ne.2 hf
    have dh : (finM R C m xs == finM R C m xs) = true := by simp
    have HF1 := Lib.hid hF1
    generalize finM R C m xs = g at *
    clear hE1 hE2 hZ1 hZ2 hF1 hF2 hf hA hA' hx hy hmx hmy
    subst he1 he2 hz1 hz2
    have c0 := G1.cell (i := 0) rfl
    have c1 := G1.cell (i := 1) rfl
    have c2 := G1.cell (i := 2) rfl
    have d0 := G2.cell (i := 0) rfl
    have d1 := G2.cell (i := 1) rfl
    have d2 := G2.cell (i := 2) rfl
    go_enter Try.func11, Try.ntmps11
    go_wp2_with fail
    generalize (w.alloc (.cells #[.int .i64 R, .int .i64 C, .slice a m cap] 24)).alloc (.cells #[.int .i64 R', .int .i64 C', .slice a' m' cap'] 24) = W0 at *
    refine (hal _).mono ?_
    rintro e w1 ⟨rfl, b1⟩
    replace B := below_both B b1
    replace G1 := G1.behind b1
    replace G2 := G2.behind b1
    have c0 := G1.cell (i := 0) rfl
    have c1 := G1.cell (i := 1) rfl
    have c2 := G1.cell (i := 2) rfl
    have d0 := G2.cell (i := 0) rfl
    have d1 := G2.cell (i := 1) rfl
    have d2 := G2.cell (i := 2) rfl
    clear b1
    go_wp2_with fail
    refine (HMU.out _ B).mono ?_
    rintro e w2 ⟨R2, C2, b5, n5, c5, rfl, hN5, hR5, k5⟩
    have A5 := hN5.arg
    have HR5 := Lib.hid hR5
    obtain ⟨j5, K5⟩ := mbox w2 #[.int .i64 R2, .int .i64 C2, .slice b5 n5 c5] 24 _ rfl
    replace A5 := A5.behind j5
    have i5 := below_both k5 j5
    replace B := below_both B i5
    replace G1 := G1.behind i5
    replace G2 := G2.behind i5
    have c0 := G1.cell (i := 0) rfl
    have c1 := G1.cell (i := 1) rfl
    have c2 := G1.cell (i := 2) rfl
    have d0 := G2.cell (i := 0) rfl
    have d1 := G2.cell (i := 1) rfl
    have d2 := G2.cell (i := 2) rfl
    clear hN5 hR5 k5 j5 i5
    go_wp2_with fail
    generalize w2.alloc (.cells #[.int .i64 R2, .int .i64 C2, .slice b5 n5 c5] 24) = w3 at *
    refine (HSY.out _ B).mono ?_
    rintro e w4 ⟨R3, C3, b7, n7, c7, rfl, hN7, hR7, k7⟩
    have A7 := hN7.arg
    have HR7 := Lib.hid hR7
    obtain ⟨j7, K7⟩ := mbox w4 #[.int .i64 R3, .int .i64 C3, .slice b7 n7 c7] 24 _ rfl
    replace A7 := A7.behind j7
    have i7 := below_both k7 j7
    replace B := below_both B i7
    replace G1 := G1.behind i7
    replace G2 := G2.behind i7
    replace A5 := A5.behind i7
    replace K5 := K5.behind i7
    have c0 := G1.cell (i := 0) rfl
    have c1 := G1.cell (i := 1) rfl
    have c2 := G1.cell (i := 2) rfl
    have d0 := G2.cell (i := 0) rfl
    have d1 := G2.cell (i := 1) rfl
    have d2 := G2.cell (i := 2) rfl
    clear hN7 hR7 k7 j7 i7
    go_wp2_with fail
    generalize w4.alloc (.cells #[.int .i64 R3, .int .i64 C3, .slice b7 n7 c7] 24) = w5 at *
    refine (HF1.out _ B).mono ?_
    rintro e w6 ⟨rfl, b6⟩
    replace B := below_both B b6
    replace G1 := G1.behind b6
    replace G2 := G2.behind b6
    replace A5 := A5.behind b6
    replace K5 := K5.behind b6
    replace A7 := A7.behind b6
    replace K7 := K7.behind b6
    have c0 := G1.cell (i := 0) rfl
    have c1 := G1.cell (i := 1) rfl
    have c2 := G1.cell (i := 2) rfl
    have d0 := G2.cell (i := 0) rfl
    have d1 := G2.cell (i := 1) rfl
    have d2 := G2.cell (i := 2) rfl
    clear b6
    go_wp2_with fail
    refine (HF1.out _ B).mono ?_
    rintro e w7 ⟨rfl, b7⟩
    replace B := below_both B b7
    replace G1 := G1.behind b7
    replace G2 := G2.behind b7
    replace A5 := A5.behind b7
    replace K5 := K5.behind b7
    replace A7 := A7.behind b7
    replace K7 := K7.behind b7
    obtain rfl : n5 = 0 := by
      obtain ⟨a8, c8, e8⟩ := A5.slice
      simp only [Value.slice.injEq, List.length_nil] at e8
      exact e8.2.1
    obtain rfl : n7 = 0 := by
      obtain ⟨a8, c8, e8⟩ := A7.slice
      simp only [Value.slice.injEq, List.length_nil] at e8
      exact e8.2.1
    have v0 := K5.cell (i := 0) rfl
    have v1 := K5.cell (i := 1) rfl
    have v2 := K5.cell (i := 2) rfl
    have s0 := K7.cell (i := 0) rfl
    have s1 := K7.cell (i := 1) rfl
    have s2 := K7.cell (i := 2) rfl
    have HBB := Lib.hid B
    go_wp2
    go_ret
    exact ⟨rfl, HBB.out⟩
end Go.Proofs.Ytjiilechfjkkfaa
