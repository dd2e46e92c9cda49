/- GroupOnce: each kid stays, comes back, leaves, or is a ghost as it was: just one of these. -/
import Derived.Test.YtjflmkeagheilaaGrP
import Derived.OrdersHeld
namespace Go.Proofs.Ytjflmkeagheilaa
open Go.RowKit Gr
open M (cutS few few_len)
attribute [-go_sem] Builtin.append_
set_option linter.unusedVariables false
set_option linter.unusedSimpArgs false
namespace Gr
/-- how often each of n places is told. -/
def cn (n : Nat) (p : List Int) : List Int := (List.range n).map fun (i : Nat) => ((p.count (i : Int) : Nat) : Int)
theorem cn_len (n : Nat) (p : List Int) : (cn n p).length = n := by simp [cn]
theorem cn_at (n : Nat) (p : List Int) {i : Nat} (h : i < n) : ats (cn n p) i = ((p.count (i : Int) : Nat) : Int) := by simp [ats, cn, h]
theorem cn_next (n : Nat) (p : List Int) {j : Nat} (h : j < n) : (cn n p).set j (ats (cn n p) j + 1) = cn n (p ++ [(j : Int)]) := by
  rw [cn_at n p h]
  apply List.ext_getElem
  · simp [cn]
  · intro i h1 h2
    simp only [cn, List.getElem_set, List.getElem_map, List.getElem_range, List.count_append]
    by_cases e : j = i
    · subst e; simp
    · rw [if_neg e]
      have : ¬ ((j : Int) = (i : Int)) := by omega
      simp [List.count_cons, this]
theorem cn_skip (n : Nat) (p : List Int) {x : Int} (h : x < 0) : cn n p = cn n (p ++ [x]) := by
  unfold cn
  apply List.map_congr_left
  intro i _
  have : ¬ (x = (i : Int)) := by omega
  simp [List.count_append, List.count_cons, this]
theorem cn_zero (n : Nat) : iv (cn n []) = (madeCells #[.int .i64 0] (n * 1)).toList := by
  rw [Nat.mul_one, toList_madeCells_one]
  apply List.ext_getElem
  · simp [iv, cn]
  · intro i h1 h2; simp [iv, cn]
theorem takeI_inj {L : List Gk} {keys : List ByteArray} {a b : Nat} (hb : b < keys.length) (hab : a < b) {j : Nat} (h1 : takeI L keys a = (j : Int)) (h2 : takeI L keys b = (j : Int)) : False := by
  rcases takeI_range L keys a with h | ⟨j1, e1, _, k1⟩
  · rw [h] at h1; omega
  · rcases takeI_range L keys b with h | ⟨j2, e2, _, k2⟩
    · rw [h] at h2; omega
    · have q1 : j1 = j := by omega
      have q2 : j2 = j := by omega
      subst q1
      subst q2
      have hk : key keys a = key keys b := by rw [← k1, ← k2]
      have hm : key keys b ∈ keys.take b := by
        rw [← hk, key_eq keys a (by omega), List.mem_take_iff_getElem]
        exact ⟨a, by omega, rfl⟩
      unfold takeI takeO at h2
      rw [if_pos hm] at h2
      simp [oI] at h2
theorem count_tk (L : List Gk) (keys : List ByteArray) (i : Nat) : ∀ k, k ≤ keys.length → (((List.range k).map (takeI L keys)).count (i : Int) ≤ 1 ∧ (((List.range k).map (takeI L keys)).count (i : Int) = 1 → ∃ a, a < k ∧ takeI L keys a = (i : Int)))
  | 0, _ => by simp
  | k + 1, h => by
    obtain ⟨h1, h2⟩ := count_tk L keys i k (by omega)
    rw [List.range_succ, List.map_append, List.count_append]
    by_cases e : takeI L keys k = (i : Int)
    · have h0 : ((List.range k).map (takeI L keys)).count (i : Int) = 0 := by
        rcases Nat.lt_or_ge ((List.range k).map (takeI L keys) |>.count (i : Int)) 1 with q | q
        · omega
        · obtain ⟨a, ha, hb⟩ := h2 (by omega)
          exact (takeI_inj (by omega) ha hb e).elim
      rw [h0]
      refine ⟨by simp [List.count_cons]; split <;> omega, fun _ => ⟨k, by omega, e⟩⟩
    · have h0 : List.count (i : Int) (List.map (takeI L keys) [k]) = 0 := by simp [List.count_cons, e]
      rw [h0]
      exact ⟨by omega, fun q => by obtain ⟨a, ha, hb⟩ := h2 (by omega); exact ⟨a, by omega, hb⟩⟩
theorem count_wh (n : Nat) (q : Nat → Bool) (i : Nat) (hi : i < n) : (nI (wh n q)).count (i : Int) = if q i = true then 1 else 0 := by
  have go : ∀ k, (nI (wh k q)).count (i : Int) = if i < k ∧ q i = true then 1 else 0 := by
    intro k
    induction k with
    | zero => simp [wh, nI]
    | succ k ih =>
      rw [wh_next]
      by_cases hq : q k = true
      · rw [if_pos hq]
        have : nI (wh k q ++ [k]) = nI (wh k q) ++ [(k : Int)] := by simp [nI]
        rw [this, List.count_append, ih]
        by_cases e : k = i
        · subst e
          simp [hq]
        · have e2 : ¬ ((k : Int) = (i : Int)) := by omega
          simp only [List.count_cons, List.count_nil, beq_iff_eq, if_neg e2]
          by_cases h1 : i < k
          · simp [h1, show i < k + 1 by omega]
          · simp [h1, show ¬ i < k + 1 by omega]
      · rw [if_neg hq, ih]
        by_cases e : k = i
        · subst e; simp [hq]
        · by_cases h1 : i < k
          · simp [h1, show i < k + 1 by omega]
          · simp [h1, show ¬ i < k + 1 by omega]
  rw [go n]
  simp [hi]
theorem once (L : List Gk) (keys : List ByteArray) {i : Nat} (hi : i < L.length) : (tks L keys ++ nI (ghosts L (tks L keys))).count (i : Int) = 1 := by
  rw [List.count_append]
  unfold ghosts
  rw [count_wh _ _ i hi]
  have h1 := (count_tk L keys i keys.length (Nat.le_refl _)).1
  replace h1 : (tks L keys).count (i : Int) ≤ 1 := h1
  unfold ghostQ
  by_cases hm : (i : Int) ∈ tks L keys
  · have := List.count_pos_iff.2 hm
    simp [hm]
    omega
  · have h0 := List.count_eq_zero.2 hm
    rw [h0]
    simp [hm]
/-- each key is new, comes back, or is kept. -/
theorem three (L : List Gk) (T : List Int) (m : Nat) (h : ∀ k, k < m → ats T k = -1 ∨ ∃ j : Nat, ats T k = (j : Int) ∧ j < L.length) : ∀ k, k ≤ m → (wh k (newQ T)).length + (wh k (backQ L T)).length + (wh k (keptQ L T)).length = k
  | 0, _ => by simp [wh]
  | k + 1, hk => by
    have ih := three L T m h k (by omega)
    rw [wh_next, wh_next, wh_next]
    unfold newQ backQ keptQ at *
    rcases h k (by omega) with e | ⟨j, e, hj⟩
    · rw [e]
      simp
      omega
    · rw [e]
      have e1 : decide ((j : Int) < 0) = false := decide_eq_false (by omega)
      have e2 : decide (0 ≤ (j : Int)) = true := decide_eq_true (by omega)
      have e3 : decide ((j : Int) < (L.length : Int)) = true := decide_eq_true (by omega)
      rw [e1, e2, e3]
      cases (gk L ((j : Int)).toNat).2 <;> simp <;> omega
end Gr
set_option maxHeartbeats 16000000 in
set_option maxRecDepth 100000 in
theorem groupOnce_any (A B : Option Addr) (n c m d : Nat) (L : List Gk) (K : List ByteArray) (w : World) (hn : n = L.length) (hm : m = K.length) (hb : n ≤ maxLen) (hb2 : m ≤ maxLen) (ha : At w A (gcs L)) (ha2 : At w B (sv K)) (ho : ∀ k ∈ L, OkS k.1) (hw : ∀ k ∈ K, OkS k) :
    Calls Try.prog 4 #[.slice A n c, .slice B m d] w fun e w' => e = .returned (.bool true) ∧ Below w.heap.size w w' := by
  have C1 := Lib.hid (fun W (hW : Below w.heap.size w W) => own_any A n c 40 L W hn hb (by omega) (ha.below hW))
  have C2 := Lib.hid (fun W (hW : Below w.heap.size w W) => few_any B m d 40 K W hm hb2 (by omega) (by omega) (ha2.below hW))
  have OX := Lib.hid (ownK_ok L 40 ho)
  have OY := Lib.hid (few_ok K 40 hw)
  have LX : Hid (min 40 n = (ownK L 40).length) := by show _ = _; rw [ownK_len, hn]
  have hx1 : min 40 n ≤ 40 := by omega
  have hy1 : (few K 40).length ≤ 40 := few_len K 40
  generalize ownK L 40 = X at *
  replace C2 : Hid (∀ W, Below w.heap.size w W → Calls Try.prog 13 #[.slice B m d, .int .i64 40] W fun e w' => ∃ v, e = .returned v ∧ w'.ownsRow W.heap.size 9 1 v (few K 40).length (sv (few K 40)) ∧ Below W.heap.size W w') := C2
  obtain ⟨Y, hY⟩ : ∃ Y, Y = few K 40 := ⟨_, rfl⟩
  rw [← hY] at C2 OY hy1
  clear hY
  generalize min 40 n = N at *
  obtain ⟨M, hM⟩ : ∃ M, M = Y.length := ⟨_, rfl⟩
  rw [← hM] at C2 hy1
  have HM := Lib.hid hM
  obtain ⟨i0, hi, hz0, hz1, hz2⟩ := info_parts infoInt
  clear hn hm hb hb2 ha ha2 ho hw hM
  go_enter Try.func4, Try.ntmps4
  go_wp2_with fail
  refine (awake25_any _).mono ?_
  rintro e w1 ⟨rfl, hb1⟩
  have HB1 := Lib.hid hb1
  clear hb1
  go_wp2_with fail
  refine (C1.out _ HB1.out).mono ?_
  rintro e w2 ⟨v5, v6, rfl, ho5, ho6, hb2⟩
  obtain ⟨A5, c5, rfl, hc5, hm5⟩ := own_slice ho5
  obtain ⟨A6, c6, rfl, hc6, hm6⟩ := own_slice ho6
  have T5 := Lib.hid (At.own ho5)
  have T6 := Lib.hid (At.own ho6)
  have HB2 := Lib.hid (HB1.out.trans (hb2.mono HB1.out.size))
  clear ho5 ho6 hb2 C1
  go_wp2_with fail
  refine (C2.out _ HB2.out).mono ?_
  rintro e w3 ⟨v1, rfl, ho1, hb3⟩
  obtain ⟨A1, c1, rfl, hc1, hm1⟩ := own_slice ho1
  have U5 := Lib.hid (T5.out.below hb3)
  have U6 := Lib.hid (T6.out.below hb3)
  have U1 := Lib.hid (At.own ho1)
  have HB3 := Lib.hid (HB2.out.trans (hb3.mono HB2.out.size))
  clear ho1 hb3 T5 T6 C2
  have C3 := Lib.hid (of_any A5 N c5 X A1 M c1 Y w3 LX.out HM.out (by omega) (by omega) U5.out U1.out OX.out OY.out)
  have HTL : Hid (M = (tks X Y).length) := by show _ = _; rw [tks_len]; exact HM.out
  have HTR : Hid (∀ k, k < M → ats (tks X Y) k = -1 ∨ ∃ j : Nat, ats (tks X Y) k = (j : Int) ∧ j < N) := fun k hk => by
    have hky : k < Y.length := by have := HM.out; omega
    rw [tks_at X Y hky]
    rcases takeI_range X Y k with h | ⟨j, h1, h2, _⟩
    · exact .inl h
    · exact .inr ⟨j, h1, by have := LX.out; omega⟩
  have HONE : Hid (∀ i, i < N → (tks X Y ++ nI (ghosts X (tks X Y))).count (i : Int) = 1) := fun i hi => once X Y (by have := LX.out; omega)
  generalize tks X Y = T at *
  have hlv : (leaves X T).length ≤ 40 := by
    have h1 := wh_le X.length (leaveQ X T)
    have h2 := LX.out
    unfold leaves
    omega
  have hgl : (ghosts X T).length ≤ 40 := by
    have h1 := wh_le X.length (ghostQ T)
    have h2 := LX.out
    unfold ghosts
    omega
  have HGR : Hid (∀ k, k < (ghosts X T).length → ats (nI (ghosts X T)) k = -1 ∨ ∃ j : Nat, ats (nI (ghosts X T)) k = (j : Int) ∧ j < N) := fun k hk => by
    refine .inr ⟨(ghosts X T)[k], by simp [ats, nI, hk], ?_⟩
    have h1 : (ghosts X T)[k] ∈ ghosts X T := List.getElem_mem hk
    unfold ghosts at h1
    rw [mem_wh] at h1
    have := LX.out
    unfold ghosts
    omega
  have HLR : Hid (∀ k, k < (leaves X T).length → ∃ j : Nat, (nv (leaves X T))[k]? = some (.int .i64 (j : Int)) ∧ j < N ∧ (gk X j).2 = false) := fun k hk => by
    refine ⟨(leaves X T)[k], by simp [nv, hk], ?_⟩
    have h1 : (leaves X T)[k] ∈ leaves X T := List.getElem_mem hk
    generalize (leaves X T)[k] = q at *
    unfold leaves at h1
    rw [mem_wh] at h1
    unfold leaveQ at h1
    have := LX.out
    refine ⟨by omega, ?_⟩
    have h2 := h1.2
    simp at h2
    exact h2.1
  have H3 : Hid ((wh M (newQ T)).length + (wh M (backQ X T)).length + (wh M (keptQ X T)).length = M) := by
    show _ = _
    exact three X T M (fun k hk => by rw [← LX.out]; exact HTR.out k hk) M (Nat.le_refl _)
  obtain ⟨NL, hNL⟩ : ∃ q, q = (leaves X T).length := ⟨_, rfl⟩
  obtain ⟨NG, hNG⟩ : ∃ q, q = (ghosts X T).length := ⟨_, rfl⟩
  rw [← hNL] at HLR hlv
  rw [← hNG] at HGR hgl
  have HNL := Lib.hid hNL
  have HNG := Lib.hid hNG
  have HGL : Hid (NG = (nI (ghosts X T)).length) := by show _ = _; simp [nI, hNG]
  clear hNL hNG
  go_wp2_with fail
  refine C3.out.mono ?_
  rintro e w4 ⟨v7, v8, rfl, ho7, ho8, hb4⟩
  rw [← HNL.out] at ho7
  obtain ⟨A7, c7, rfl, _, _⟩ := own_slice ho7
  obtain ⟨A8, c8, rfl, _, _⟩ := own_slice ho8
  obtain ⟨W5, hW5⟩ : ∃ W, W = w4.alloc (.cells #[.slice A7 NL c7, .slice A8 M c8] 31) := ⟨_, rfl⟩
  obtain ⟨gp, hgp⟩ : ∃ g, g = w4.heap.size := ⟨_, rfl⟩
  have hb5 : Below w4.heap.size w4 W5 := by rw [hW5]; exact below_alloc w4 _
  have hb35 : Below w3.heap.size w3 W5 := hb4.trans (hb5.mono hb4.size)
  have KP := Lib.hid (show Blk W5 gp 31 #[.slice A7 NL c7, .slice A8 M c8] by rw [hW5, hgp]; exact Blk.new w4 _ _)
  have V7 := Lib.hid ((At.own ho7).below hb5)
  have V8 := Lib.hid ((At.own ho8).below hb5)
  have V5 := Lib.hid (U5.out.below hb35)
  have V6 := Lib.hid (U6.out.below hb35)
  have HB5 := Lib.hid (HB3.out.trans (hb35.mono HB3.out.size))
  have HW5 := Lib.hid hW5
  have HGP := Lib.hid hgp
  clear ho7 ho8 hb4 hb5 hb35 hW5 hgp C3 HB3 U5 U6 U1
  go_upto_region 6 with fail
  rw [← HW5.out, ← HGP.out]
  obtain ⟨U, hmk, hrow, hgm⟩ := run_makeSlice_full (P := Try.prog) W5 W5.heap.size 29 3 i0 (.int .i64 0) 1 Try.underlying29 hi hz0 hz1 .i64 .i64 N (by omega) (by rw [hz2]; omega) (by unfold maxLen; omega) (Nat.le_refl _)
  obtain ⟨nb, hnb⟩ : ∃ b, b = W5.heap.size := ⟨_, rfl⟩
  rw [← hnb] at hrow
  have hbU5 : Below W5.heap.size W5 U := (Below.refl _ _).grown hgm (Nat.le_refl _) (fun q hq => nomatch hq)
  have KPU := Lib.hid (KP.out.below hbU5)
  have Z7 := Lib.hid (V7.out.below hbU5)
  have Z8 := Lib.hid (V8.out.below hbU5)
  have Z5 := Lib.hid (V5.out.below hbU5)
  have Z6 := Lib.hid (V6.out.below hbU5)
  have HBU := Lib.hid (HB5.out.trans (hbU5.mono HB5.out.size))
  have Z8B : Hid (∀ b o, A8 = some ⟨b, o, none⟩ → iv T ≠ [] → b < nb) := fun b o e h => by
    obtain ⟨b', o', e', hb', _⟩ := V8.out h
    rw [e] at e'
    injection e' with e'
    injection e' with e1 e2
    omega
  have Z7B : Hid (∀ b o, A7 = some ⟨b, o, none⟩ → nv (leaves X T) ≠ [] → b < nb) := fun b o e h => by
    obtain ⟨b', o', e', hb', _⟩ := V7.out h
    rw [e] at e'
    injection e' with e'
    injection e' with e1 e2
    omega
  have Z6B : Hid (∀ b o, A6 = some ⟨b, o, none⟩ → gcs X ≠ [] → b < nb) := fun b o e h => by
    obtain ⟨b', o', e', hb', _⟩ := V6.out h
    rw [e] at e'
    injection e' with e'
    injection e' with e1 e2
    omega
  have Z5B : Hid (∀ b o, A5 = some ⟨b, o, none⟩ → gcs X ≠ [] → b < nb) := fun b o e h => by
    obtain ⟨b', o', e', hb', _⟩ := V5.out h
    rw [e] at e'
    injection e' with e'
    injection e' with e1 e2
    omega
  have hgpn : gp < nb := by rw [hnb]; exact KP.out.lt
  have RN : Hid (U.ownsRow nb 3 1 (.slice (some ⟨nb, 0, none⟩) N N) N (iv (cn N []))) := by show World.ownsRow _ _ _ _ _ _ _; rw [cn_zero]; exact hrow
  have hnU : nb < U.heap.size := (hrow.lt _ rfl).2
  have HNBW := Lib.hid hnb
  have HBW5 := Lib.hid HB5.out.size
  have CG := Lib.hid (fun W (hW : Below U.heap.size U W) => ghosts_any A7 NL c7 X T A5 N c5 A8 M c8 W HTL.out LX.out (by omega) (by omega) HNL.out (Z7.out.below hW) (Z5.out.below hW) (Z8.out.below hW))
  have SH := Lib.hid (fun W (BW : Below U.heap.size U W) => (⟨(BW.cell (p := ⟨gp, 0, none⟩) KPU.out.lt).trans (KPU.out.cell 0 (v := .slice A7 NL c7) rfl), (BW.cell (p := ⟨gp, 1, none⟩) KPU.out.lt).trans (KPU.out.cell 1 (v := .slice A8 M c8) rfl), BW⟩ : (fun w' => w'.cell? ⟨gp, 0, none⟩ = some (.slice A7 NL c7) ∧ w'.cell? ⟨gp, 1, none⟩ = some (.slice A8 M c8) ∧ Below U.heap.size U w') W))
  clear hrow hgm hbU5 KP V7 V8 V5 V6 HB5 hnb
  go_upto_region 7 with fail
  clear hmk
  rw [← HNBW.out]
  have HB0 := Lib.hid (show Below U.heap.size U U.drew from Below_drew (Below.refl _ _))
  obtain ⟨X0, hX0⟩ : ∃ X, X = U.drew := ⟨_, rfl⟩
  refine wp_region_held_drew (S := (fun w' => w'.cell? ⟨gp, 0, none⟩ = some (.slice A7 NL c7) ∧ w'.cell? ⟨gp, 1, none⟩ = some (.slice A8 M c8) ∧ Below U.heap.size U w')) (by kernel_rfl) (SH.out _ HB0.out) (fun hH0 => ?_)
  rw [← hX0] at HB0 hH0 ⊢
  clear hX0
  refine wpAnyH_take (i := 0) (oi := Oper.mk (some 31) (Op.fieldAddr 31 (Operand.tmp 7) 1) 0 "law.go:62" #[] none) (v := ?_) rfl (by kernel_rfl) (by kernel_rfl) (by kernel_rfl) (fun _ _ _ h => h) (Or.inl ⟨by rfl, ?_⟩) (by assumption) ?_
  rotate_left 1
  · (intro w hSw; (try dsimp only at hSw); go_simp; (try with_reducible rfl))
  try simp only [Act.put, List.setIfInBounds_toArray, List.set_cons_zero, List.set_cons_succ]
  refine wpAnyH_take (i := 1) (oi := Oper.mk (some 32) (Op.load 29 (Operand.tmp 31)) 29 "law.go:62" #[Edge.mk 0 Ground.data] none) (v := ?_) rfl (by kernel_rfl) (by kernel_rfl) (by kernel_rfl) (fun _ _ _ h => h) (Or.inl ⟨by rfl, ?_⟩) (by assumption) ?_
  rotate_left 1
  · (intro w hSw; (try dsimp only at hSw); go_simp; (try with_reducible rfl))
  try simp only [Act.put, List.setIfInBounds_toArray, List.set_cons_zero, List.set_cons_succ]
  refine wpAnyH_take (i := 2) (oi := Oper.mk (some 33) (Op.load 31 (Operand.tmp 7)) 31 "law.go:62" #[] none) (v := ?_) rfl (by kernel_rfl) (by kernel_rfl) (by kernel_rfl) (fun _ _ _ h => h) (Or.inl ⟨by rfl, ?_⟩) (by assumption) ?_
  rotate_left 1
  · (intro w hSw; (try dsimp only at hSw); go_simp; (try with_reducible rfl))
  try simp only [Act.put, List.setIfInBounds_toArray, List.set_cons_zero, List.set_cons_succ]
  refine wpAnyH_take (i := 3) (oi := Oper.mk (some 34) (Op.move (Operand.tmp 5)) 25 "law.go:62" #[] none) (v := ?_) rfl (by kernel_rfl) (by kernel_rfl) (by kernel_rfl) (fun _ _ _ h => h) (Or.inl ⟨by rfl, ?_⟩) (by assumption) ?_
  rotate_left 1
  · (intro w hSw; (try dsimp only at hSw); go_simp; (try with_reducible rfl))
  try simp only [Act.put, List.setIfInBounds_toArray, List.set_cons_zero, List.set_cons_succ]
  refine wpAnyH_take (i := 7) (oi := Oper.mk (some 38) (Op.move (Operand.const (Value.int IntKind.i64 0))) 3 "law.go:62" #[] none) (v := ?_) rfl (by kernel_rfl) (by kernel_rfl) (by kernel_rfl) (fun _ _ _ h => h) (Or.inl ⟨by rfl, ?_⟩) (by assumption) ?_
  rotate_left 1
  · (intro w hSw; (try dsimp only at hSw); go_simp; (try with_reducible rfl))
  try simp only [Act.put, List.setIfInBounds_toArray, List.set_cons_zero, List.set_cons_succ]
  refine wpAnyH_ready (rs := [4]) (by kernel_rfl) (by simp) ?_
  refine (AllReadyH.cons (o := Oper.mk (some 35) (Op.call (Call.mk (Callee.value (Operand.func 21)) #[Operand.tmp 33, Operand.tmp 34] #[31, 25])) 29 "law.go:62" #[Edge.mk 2 Ground.data, Edge.mk 3 Ground.data] none) rfl (fun K hK => ?_) AllReadyH.nil)
  go_simp
  go_at_call 21
  (with_reducible refine (CG.out _ HB0.out).mono ?_)
  rintro e9 X1 ⟨v9, rfl, ho, hb⟩
  obtain ⟨E1, d1, rfl, _, _⟩ := own_slice ho
  have HB1 := Lib.hid (HB0.out.trans (hb.mono HB0.out.size))
  have R1x1 := Lib.hid (own_mono ho HB0.out.size)
  clear ho hb HB0
  go_wp2_with fail
  refine hK.out _ _ ?_ (fun hH1 => ?_)
  · exact SH.out _ HB1.out
  clear hK K
  try clear hH0
  try simp only [Act.put, List.setIfInBounds_toArray, List.set_cons_zero, List.set_cons_succ]
  refine wpAnyH_ready (rs := [5]) (by kernel_rfl) (by simp) ?_
  refine (AllReadyH.cons (o := Oper.mk (some 36) (Op.buildSlice 40 2 #[(0, Operand.tmp 32), (1, Operand.tmp 35)]) 40 "law.go:62" #[Edge.mk 1 Ground.data, Edge.mk 4 Ground.data] none) rfl (fun K hK => ?_) AllReadyH.nil)
  go_simp
  obtain ⟨X2, hX⟩ : ∃ Xq, Xq = X1.alloc (.cells #[.slice A8 M c8, .slice E1 (ghosts X T).length d1] 29) := ⟨_, rfl⟩
  obtain ⟨G5, hg⟩ : ∃ g, g = X1.heap.size := ⟨_, rfl⟩
  rw [← hX, ← hg]
  have hb : Below X1.heap.size X1 X2 := by rw [hX]; exact below_alloc _ _
  have K5x2 := Lib.hid (show Blk X2 G5 29 #[.slice A8 M c8, .slice E1 (ghosts X T).length d1] by rw [hX, hg]; exact Blk.new _ _ _)
  have HLG5 := Lib.hid (show U.heap.size ≤ G5 by rw [hg]; exact HB1.out.size)
  have HB2 := Lib.hid (HB1.out.trans (hb.mono HB1.out.size))
  have R1x2 := Lib.hid (own_below R1x1.out hb)
  clear R1x1
  clear hX hg hb HB1
  refine hK.out _ _ ?_ (fun hH2 => ?_)
  · exact SH.out _ HB2.out
  clear hK K
  try clear hH1
  try simp only [Act.put, List.setIfInBounds_toArray, List.set_cons_zero, List.set_cons_succ]
  refine wpAnyH_take (i := 6) (oi := Oper.mk (some 37) (Op.call (Call.mk (Callee.builtin Builtin.len) #[Operand.tmp 36] #[40])) 3 "law.go:62" #[Edge.mk 5 Ground.data] none) (v := ?_) rfl (by kernel_rfl) (by kernel_rfl) (by kernel_rfl) (fun _ _ _ h => h) (Or.inl ⟨by rfl, ?_⟩) (by assumption) ?_
  rotate_left 1
  · (intro w hSw; (try dsimp only at hSw); go_simp; (try with_reducible rfl))
  try simp only [Act.put, List.setIfInBounds_toArray, List.set_cons_zero, List.set_cons_succ]
  refine wpAnyH_done (by kernel_rfl) ?_ _
  go_wp2_with fail
  obtain ⟨W7, hW7⟩ : ∃ W, W = X2 := ⟨_, rfl⟩
  rw [← hW7] at K5x2 HB2 R1x2 ⊢
  clear hW7
  try clear hH2
  have hrow := Lib.hid (own_below RN.out HB2.out)
  have hgr : Hid (W7.grownBy W7 (some nb)) := World.grownBy.refl _ _
  have Q8 := Lib.hid (Z8.out.below HB2.out)
  have Q7 := Lib.hid (Z7.out.below HB2.out)
  have Q6 := Lib.hid (Z6.out.below HB2.out)
  have Q5 := Lib.hid (Z5.out.below HB2.out)
  have QG : Hid (At W7 E1 (iv (nI (ghosts X T)))) := by show At _ _ _; rw [iv_nI]; exact At.own R1x2.out
  have QP := Lib.hid (KPU.out.below HB2.out)
  have N8 : Hid (∀ b o, A8 = some ⟨b, o, none⟩ → T ≠ [] → b ≠ nb) := fun b o e h => by
    have := Z8B.out b o e (fun e2 => h (by simpa [iv] using e2))
    omega
  have NG' : Hid (∀ b o, E1 = some ⟨b, o, none⟩ → nI (ghosts X T) ≠ [] → b ≠ nb) := fun b o e h => by
    have := own_from R1x2.out b (by rw [e]; rfl)
    omega
  have N7 : Hid (∀ b o, A7 = some ⟨b, o, none⟩ → nv (leaves X T) ≠ [] → b ≠ nb) := fun b o e h => by
    have := Z7B.out b o e h
    omega
  have N6 : Hid (∀ b o, A6 = some ⟨b, o, none⟩ → gcs X ≠ [] → b ≠ nb) := fun b o e h => by
    have := Z6B.out b o e h
    omega
  have N5 : Hid (∀ b o, A5 = some ⟨b, o, none⟩ → gcs X ≠ [] → b ≠ nb) := fun b o e h => by
    have := Z5B.out b o e h
    omega
  have hG5 : nb < G5 := by have := HLG5.out; omega
  rw [← HNG.out] at K5x2 ⊢
  have HG5L := Lib.hid K5x2.out.lt
  have z0 := K5x2.out.cell 0 (v := .slice A8 M c8) rfl
  have z1 := K5x2.out.cell 1 (v := .slice E1 NG d1) rfl
  have HB7 := Lib.hid (HBU.out.trans (HB2.out.mono HBU.out.size))
  have hwn : w.heap.size ≤ nb := by rw [HNBW.out]; exact HBW5.out
  clear RN Z8 Z7 Z6 Z5 KPU Z8B Z7B Z6B Z5B R1x2 K5x2 HB2 HBU CG SH
  go_loopw [38] (fun i wz => ∃ (q : Nat) (z : Int), i = .int .i64 z ∧ ((q = 0 ∧ z = 0) ∨ (q = 1 ∧ z = 1) ∨ (q = 2 ∧ z = 2)) ∧ Hid (wz.ownsRow nb 3 1 (.slice (some ⟨nb, 0, none⟩) N N) N (iv (cn N (if q = 0 then [] else if q = 1 then T else T ++ nI (ghosts X T))))) ∧ Hid (W7.grownBy wz (some nb))) (fun i _ => 2 - (intOf i).toNat)
  case atStart => exact ⟨0, 0, rfl, .inl ⟨rfl, rfl⟩, hrow, hgr⟩
  case round =>
    obtain ⟨q, z, rfl, ⟨rfl, rfl⟩ | ⟨rfl, rfl⟩ | ⟨rfl, rfl⟩, hrow, hgr⟩ := hrel
    · rw [if_pos rfl] at hrow
      have k0 := (hgr.out.cell z0 (by intro e; injection e with e; simp only at e; omega))
      go_wp2_with fail
      go_loopw [44] (fun i wz => ∃ k : Nat, k ≤ M ∧ i = .int .i64 k ∧ Hid (wz.ownsRow nb 3 1 (.slice (some ⟨nb, 0, none⟩) N N) N (iv (cn N (T.take k)))) ∧ Hid (W7.grownBy wz (some nb))) (fun i _ => M - (intOf i).toNat)
      case atStart => exact ⟨0, Nat.zero_le _, rfl, by show World.ownsRow _ _ _ _ _ _ _; have h9 := hrow.out; simpa using h9, hgr⟩
      case round =>
        obtain ⟨k, hk, rfl, hrw, hgz⟩ := hrel
        by_cases hlt : k < M
        · have hkl : k < T.length := by have := HTL.out; omega
          obtain ⟨b1, o1, hAe, hb1, hc1⟩ := Q8.out.one (iv_at T k hkl)
          have hne : b1 ≠ nb := N8.out b1 o1 hAe (by intro e; rw [e] at hkl; simp at hkl)
          have hd1 : wr.cell? ⟨b1, o1 + k, none⟩ = _ := hgz.out.cell hc1 (by intro e; injection e with e; exact hne e)
          have htk := List.take_succ_eq_append_getElem hkl
          have hxe : ats T k = T[k] := by simp [ats, hkl]
          rw [← hxe] at htk
          have hrng := HTR.out k hlt
          have hcx := fun (j : Nat) (hj : j < N) => cn_next N (T.take k) hj
          have hsk := fun (y : Int) (hy : y < 0) => cn_skip N (T.take k) hy
          have hcnt := fun (j : Nat) (hj : j < N) => cn_at N (T.take k) hj
          obtain ⟨x, hx⟩ : ∃ x, x = ats T k := ⟨_, rfl⟩
          rw [← hx] at hd1 htk hrng
          have HTK := Lib.hid htk
          have HCX := Lib.hid hcx
          have HSK := Lib.hid hsk
          subst hAe
          clear hc1 hx hxe htk hsk hcx
          rcases hrng with rfl | ⟨j, rfl, hj⟩
          · have HNX : Hid (iv (cn N (T.take k)) = iv (cn N (T.take (k + 1)))) := by show _ = _; rw [HSK.out (-1) (by omega), HTK.out]
            clear hcnt
            go_wp2_with fail
            go_roundw
            case rel => exact ⟨k + 1, by omega, by go_num, by show World.ownsRow _ _ _ _ _ _ _; rw [← HNX.out]; exact hrw.out, hgz⟩
            case measure => simp [intOf]; omega
          · obtain ⟨y, hy⟩ : ∃ y, y = ats (cn N (T.take k)) j := ⟨_, rfl⟩
            have HNX : Hid (iv (cn N (T.take (k + 1))) = (iv (cn N (T.take k))).set j (.int .i64 (y + 1))) := by show _ = _; rw [HTK.out, ← HCX.out j hj, iv_set, hy]
            have hy0 : 0 ≤ y := by rw [hy, hcnt j hj]; omega
            have hy1 : y ≤ 100 := by rw [hy, hcnt j hj]; have h8 := List.count_le_length (a := (j : Int)) (l := (T.take k)); rw [List.length_take] at h8; omega
            have c0 : wr.cell? ⟨nb, j, none⟩ = some (.int .i64 y) := by rw [hrw.out.cellAt j (by omega), iv_at _ _ (by rw [cn_len]; exact hj), hy]
            have f0 := hrw.out.frozenAt j
            clear hy hcnt
            go_wp2_with fail
            go_roundw
            case rel => exact ⟨k + 1, by omega, by go_num, by show World.ownsRow _ _ _ _ _ _ _; rw [HNX.out]; exact (hrw.out.stored _ _).1, hgz.out.trans (hrw.out.stored _ _).2⟩
            case measure => simp [intOf]; omega
        · obtain rfl : M = k := by omega
          have HRW := hrw
          have HGZ := hgz
          go_wp2_with fail
          go_roundw
          case rel => exact ⟨1, 1, by first | rfl | go_num, .inr (.inl ⟨rfl, rfl⟩), by show World.ownsRow _ _ _ _ _ _ _; have h9 := HRW.out; rw [HTL.out, List.take_length] at h9; exact h9, HGZ⟩
          case measure => simp [intOf]
    · rw [if_neg (by omega), if_pos rfl] at hrow
      have k1 := (hgr.out.cell z1 (by intro e; injection e with e; simp only at e; omega))
      go_wp2_with fail
      go_loopw [44] (fun i wz => ∃ k : Nat, k ≤ NG ∧ i = .int .i64 k ∧ Hid (wz.ownsRow nb 3 1 (.slice (some ⟨nb, 0, none⟩) N N) N (iv (cn N (T ++ (nI (ghosts X T)).take k)))) ∧ Hid (W7.grownBy wz (some nb))) (fun i _ => NG - (intOf i).toNat)
      case atStart => exact ⟨0, Nat.zero_le _, rfl, by show World.ownsRow _ _ _ _ _ _ _; have h9 := hrow.out; simpa using h9, hgr⟩
      case round =>
        obtain ⟨k, hk, rfl, hrw, hgz⟩ := hrel
        by_cases hlt : k < NG
        · have hkl : k < (nI (ghosts X T)).length := by have := HGL.out; omega
          obtain ⟨b1, o1, hAe, hb1, hc1⟩ := QG.out.one (iv_at (nI (ghosts X T)) k hkl)
          have hne : b1 ≠ nb := NG'.out b1 o1 hAe (by intro e; rw [e] at hkl; simp at hkl)
          have hd1 : wr.cell? ⟨b1, o1 + k, none⟩ = _ := hgz.out.cell hc1 (by intro e; injection e with e; exact hne e)
          have htk := List.take_succ_eq_append_getElem hkl
          have hxe : ats (nI (ghosts X T)) k = (nI (ghosts X T))[k] := by simp [ats, hkl]
          rw [← hxe] at htk
          have hrng := HGR.out k hlt
          have hcx := fun (j : Nat) (hj : j < N) => cn_next N (T ++ (nI (ghosts X T)).take k) hj
          have hsk := fun (y : Int) (hy : y < 0) => cn_skip N (T ++ (nI (ghosts X T)).take k) hy
          have hcnt := fun (j : Nat) (hj : j < N) => cn_at N (T ++ (nI (ghosts X T)).take k) hj
          obtain ⟨x, hx⟩ : ∃ x, x = ats (nI (ghosts X T)) k := ⟨_, rfl⟩
          rw [← hx] at hd1 htk hrng
          have HTK := Lib.hid htk
          have HCX := Lib.hid hcx
          have HSK := Lib.hid hsk
          subst hAe
          clear hc1 hx hxe htk hsk hcx
          rcases hrng with rfl | ⟨j, rfl, hj⟩
          · have HNX : Hid (iv (cn N (T ++ (nI (ghosts X T)).take k)) = iv (cn N (T ++ (nI (ghosts X T)).take (k + 1)))) := by show _ = _; rw [HSK.out (-1) (by omega), HTK.out, ← List.append_assoc]
            clear hcnt
            go_wp2_with fail
            go_roundw
            case rel => exact ⟨k + 1, by omega, by go_num, by show World.ownsRow _ _ _ _ _ _ _; rw [← HNX.out]; exact hrw.out, hgz⟩
            case measure => simp [intOf]; omega
          · obtain ⟨y, hy⟩ : ∃ y, y = ats (cn N (T ++ (nI (ghosts X T)).take k)) j := ⟨_, rfl⟩
            have HNX : Hid (iv (cn N (T ++ (nI (ghosts X T)).take (k + 1))) = (iv (cn N (T ++ (nI (ghosts X T)).take k))).set j (.int .i64 (y + 1))) := by show _ = _; rw [HTK.out, ← List.append_assoc, ← HCX.out j hj, iv_set, hy]
            have hy0 : 0 ≤ y := by rw [hy, hcnt j hj]; omega
            have hy1 : y ≤ 100 := by rw [hy, hcnt j hj]; have h8 := List.count_le_length (a := (j : Int)) (l := (T ++ (nI (ghosts X T)).take k)); have e1 := HTL.out; have e2 := HGL.out; rw [List.length_append, List.length_take, ← e1, ← e2] at h8; omega
            have c0 : wr.cell? ⟨nb, j, none⟩ = some (.int .i64 y) := by rw [hrw.out.cellAt j (by omega), iv_at _ _ (by rw [cn_len]; exact hj), hy]
            have f0 := hrw.out.frozenAt j
            clear hy hcnt
            go_wp2_with fail
            go_roundw
            case rel => exact ⟨k + 1, by omega, by go_num, by show World.ownsRow _ _ _ _ _ _ _; rw [HNX.out]; exact (hrw.out.stored _ _).1, hgz.out.trans (hrw.out.stored _ _).2⟩
            case measure => simp [intOf]; omega
        · obtain rfl : NG = k := by omega
          have HRW := hrw
          have HGZ := hgz
          go_wp2_with fail
          go_roundw
          case rel => exact ⟨2, 2, by first | rfl | go_num, .inr (.inr ⟨rfl, rfl⟩), by show World.ownsRow _ _ _ _ _ _ _; have h9 := HRW.out; rw [HGL.out, List.take_length] at h9; exact h9, HGZ⟩
          case measure => simp [intOf]
    · rw [if_neg (by omega), if_neg (by omega)] at hrow
      have HC : Hid (∀ i, i < N → ats (cn N (T ++ nI (ghosts X T))) i = 1) := fun i hi => by rw [cn_at N _ hi, HONE.out i hi]; rfl
      have hlen : (cn N (T ++ nI (ghosts X T))).length = N := cn_len _ _
      generalize cn N (T ++ nI (ghosts X T)) = CN at *
      have HLEN := Lib.hid hlen
      clear hlen z0 z1
      obtain ⟨W8, hW8⟩ : ∃ W, W = wr := ⟨_, rfl⟩
      rw [← hW8] at hrow hgr ⊢
      clear hW8
      go_wp2_with fail
      go_loop [68] (fun i => ∃ k : Nat, k ≤ N ∧ i = .int .i64 k) (fun i => N - (intOf i).toNat)
      case atStart => exact ⟨0, Nat.zero_le _, rfl⟩
      case round =>
        obtain ⟨k, hk, rfl⟩ := hrel
        by_cases hlt : k < N
        · have c0 : W8.cell? ⟨nb, k, none⟩ = some (.int .i64 1) := by rw [hrow.out.cellAt k (by omega), iv_at _ _ (by rw [HLEN.out]; exact hlt), HC.out k hlt]
          go_wp2_with fail
          go_round
          case rel => exact ⟨k + 1, by omega, by go_num⟩
          case measure => simp [intOf]; omega
        · obtain rfl : N = k := by omega
          have HGR8 := hgr
          have y0 := (hgr.out.cell (QP.out.cell 0 (v := .slice A7 NL c7) rfl) (by intro e; injection e with e; simp only at e; omega))
          go_wp2_with fail
          clear y0
          go_loop [80] (fun i => ∃ k : Nat, k ≤ NL ∧ i = .int .i64 k) (fun i => NL - (intOf i).toNat)
          case atStart => exact ⟨0, Nat.zero_le _, rfl⟩
          case round =>
            obtain ⟨k, hk, rfl⟩ := hrel
            by_cases hlt : k < NL
            · obtain ⟨j, hj0, hjN, hgj⟩ := HLR.out k hlt
              obtain ⟨b1, o1, hA7, hb1, hc1⟩ := Q7.out.one hj0
              have hne := N7.out b1 o1 hA7 (by intro e; rw [e] at hj0; cases hj0)
              have hd1 := hgr.out.cell hc1 (by intro e; injection e with e; exact hne e)
              obtain ⟨b2, o2, hA6, hb2, _, hc2⟩ := at_gk Q6.out (k := j) (by have := LX.out; omega)
              have hne2 := N6.out b2 o2 hA6 (by intro e; have h9 := gcs_len X; rw [e] at h9; have := LX.out; simp at h9; omega)
              have hd2 := hgr.out.cell hc2 (by intro e; injection e with e; exact hne2 e)
              rw [hgj] at hd2
              have q1 : decide ((j : Int) < 0) = false := decide_eq_false (by omega)
              have q2 : decide (N ≤ j) = false := decide_eq_false (by omega)
              subst hA7 hA6
              clear hj0 hc1 hc2 hgj hne hne2
              go_wp2_with fail
              go_round
              case rel => exact ⟨k + 1, by omega, by go_num⟩
              case measure => simp [intOf]; omega
            · obtain rfl : NL = k := by omega
              obtain ⟨U, hU⟩ : ∃ W, W = W8 := ⟨_, rfl⟩
              rw [← hU] at hgr ⊢
              have hB8 : Below nb W7 U := (Below.refl nb W7).grown hgr.out (by have := HG5L.out; omega) (fun q hq => by injection hq with hq; omega)
              have KU : Hid (Blk U gp 31 #[.slice A7 NL c7, .slice A8 M c8]) := QP.out.grown hgr.out (by intro e; injection e with e; omega)
              have TP : Hid (At U A8 (iv T)) := fun hne => by
                obtain ⟨b, o, e, hb, hc⟩ := Q8.out hne
                have := N8.out b o e (fun e2 => hne (by rw [e2]; rfl))
                exact ⟨b, o, e, Nat.lt_of_lt_of_le hb hgr.out.size, fun j u hu => hgr.out.cell (hc j u hu) (by intro e; injection e with e; exact this e)⟩
              have T5 : Hid (At U A5 (gcs X)) := fun hne => by
                obtain ⟨b, o, e, hb, hc⟩ := Q5.out hne
                have := N5.out b o e hne
                exact ⟨b, o, e, Nat.lt_of_lt_of_le hb hgr.out.size, fun j u hu => hgr.out.cell (hc j u hu) (by intro e; injection e with e; exact this e)⟩
              have HBU : Hid (Below w.heap.size w U) := HB7.out.grown hgr.out (by have := HB7.out.size; omega) (fun q hq => by injection hq with hq; omega)
              have CN := Lib.hid (fun W (hW : Below U.heap.size U W) => new_any (.slice A7 NL c7) A8 M c8 T W HTL.out (by omega) (TP.out.below hW))
              have CB := Lib.hid (fun W (hW : Below U.heap.size U W) => back_any (.slice A7 NL c7) A5 N c5 X A8 M c8 T W HTL.out LX.out (by omega) (T5.out.below hW) (TP.out.below hW))
              have CK := Lib.hid (fun W (hW : Below U.heap.size U W) => kept_any (.slice A7 NL c7) A5 N c5 X A8 M c8 T W HTL.out LX.out (by omega) (T5.out.below hW) (TP.out.below hW))
              have SH := Lib.hid (fun W (BW : Below U.heap.size U W) => (⟨(BW.cell (p := ⟨gp, 0, none⟩) KU.out.lt).trans (KU.out.cell 0 (v := .slice A7 NL c7) rfl), (BW.cell (p := ⟨gp, 1, none⟩) KU.out.lt).trans (KU.out.cell 1 (v := .slice A8 M c8) rfl), BW⟩ : (fun w' => w'.cell? ⟨gp, 0, none⟩ = some (.slice A7 NL c7) ∧ w'.cell? ⟨gp, 1, none⟩ = some (.slice A8 M c8) ∧ Below U.heap.size U w') W))
              obtain ⟨l1, hl1⟩ : ∃ l, l = (wh M (newQ T)).length := ⟨_, rfl⟩
              obtain ⟨l2, hl2⟩ : ∃ l, l = (wh M (backQ X T)).length := ⟨_, rfl⟩
              obtain ⟨l3, hl3⟩ : ∃ l, l = (wh M (keptQ X T)).length := ⟨_, rfl⟩
              have h3 := H3.out
              rw [← hl1, ← hl2, ← hl3] at h3
              rw [← hl1] at CN
              rw [← hl2] at CB
              rw [← hl3] at CK
              clear hl1 hl2 hl3
              have hl1 : l1 ≤ 40 := by omega
              have hl2 : l2 ≤ 40 := by omega
              have hl3 : l3 ≤ 40 := by omega
              have hl12 : l1 + l2 ≤ 40 := by omega
              have HSUM : Hid ((IntKind.i64.wrap (IntKind.i64.wrap ((l1 : Int) + (l2 : Int)) + (l3 : Int)) == (M : Int)) = true) := by
                have e1 : IntKind.i64.wrap ((l1 : Int) + (l2 : Int)) = (l1 : Int) + (l2 : Int) := by rw [IntKind.wrap_i64]; omega
                have e2 : IntKind.i64.wrap ((l1 : Int) + (l2 : Int) + (l3 : Int)) = (l1 : Int) + (l2 : Int) + (l3 : Int) := by rw [IntKind.wrap_i64]; omega
                show _ = _
                rw [e1, e2, beq_iff_eq]
                omega
              have HH3 := Lib.hid h3
              clear h3
              clear hU hB8 hgr hrow HGR8 Q8 Q7 Q6 Q5 QG QP N8 NG' N7 N6 N5 HB7 T5
              go_upto_region 31 with fail
              have HB0 := Lib.hid (show Below U.heap.size U U.drew from Below_drew (Below.refl _ _))
              obtain ⟨X0, hX0⟩ : ∃ X, X = U.drew := ⟨_, rfl⟩
              refine wp_region_held_drew (S := (fun w' => w'.cell? ⟨gp, 0, none⟩ = some (.slice A7 NL c7) ∧ w'.cell? ⟨gp, 1, none⟩ = some (.slice A8 M c8) ∧ Below U.heap.size U w')) (by kernel_rfl) (SH.out _ HB0.out) (fun hH0 => ?_)
              rw [← hX0] at HB0 hH0 ⊢
              clear hX0
              refine wpAnyH_take (i := 0) (oi := Oper.mk (some 100) (Op.fieldAddr 31 (Operand.tmp 7) 1) 0 "law.go:82" #[] none) (v := ?_) rfl (by kernel_rfl) (by kernel_rfl) (by kernel_rfl) (fun _ _ _ h => h) (Or.inl ⟨by rfl, ?_⟩) (by assumption) ?_
              rotate_left 1
              · (intro w hSw; (try dsimp only at hSw); go_simp; (try with_reducible rfl))
              try simp only [Act.put, List.setIfInBounds_toArray, List.set_cons_zero, List.set_cons_succ]
              refine wpAnyH_take (i := 1) (oi := Oper.mk (some 101) (Op.load 29 (Operand.tmp 100)) 29 "law.go:82" #[Edge.mk 0 Ground.data] none) (v := ?_) rfl (by kernel_rfl) (by kernel_rfl) (by kernel_rfl) (fun _ _ _ h => h) (Or.inl ⟨by rfl, ?_⟩) (by assumption) ?_
              rotate_left 1
              · (intro w hSw; (try dsimp only at hSw); go_simp; (try with_reducible rfl))
              try simp only [Act.put, List.setIfInBounds_toArray, List.set_cons_zero, List.set_cons_succ]
              refine wpAnyH_take (i := 2) (oi := Oper.mk (some 102) (Op.call (Call.mk (Callee.builtin Builtin.len) #[Operand.tmp 101] #[29])) 3 "law.go:82" #[Edge.mk 1 Ground.data] none) (v := ?_) rfl (by kernel_rfl) (by kernel_rfl) (by kernel_rfl) (fun _ _ _ h => h) (Or.inl ⟨by rfl, ?_⟩) (by assumption) ?_
              rotate_left 1
              · (intro w hSw; (try dsimp only at hSw); go_simp; (try with_reducible rfl))
              try simp only [Act.put, List.setIfInBounds_toArray, List.set_cons_zero, List.set_cons_succ]
              refine wpAnyH_take (i := 3) (oi := Oper.mk (some 103) (Op.move (Operand.tmp 1)) 23 "law.go:82" #[] none) (v := ?_) rfl (by kernel_rfl) (by kernel_rfl) (by kernel_rfl) (fun _ _ _ h => h) (Or.inl ⟨by rfl, ?_⟩) (by assumption) ?_
              rotate_left 1
              · (intro w hSw; (try dsimp only at hSw); go_simp; (try with_reducible rfl))
              try simp only [Act.put, List.setIfInBounds_toArray, List.set_cons_zero, List.set_cons_succ]
              refine wpAnyH_take (i := 4) (oi := Oper.mk (some 104) (Op.call (Call.mk (Callee.builtin Builtin.len) #[Operand.tmp 103] #[23])) 3 "law.go:82" #[Edge.mk 3 Ground.data] none) (v := ?_) rfl (by kernel_rfl) (by kernel_rfl) (by kernel_rfl) (fun _ _ _ h => h) (Or.inl ⟨by rfl, ?_⟩) (by assumption) ?_
              rotate_left 1
              · (intro w hSw; (try dsimp only at hSw); go_simp; (try with_reducible rfl))
              try simp only [Act.put, List.setIfInBounds_toArray, List.set_cons_zero, List.set_cons_succ]
              refine wpAnyH_take (i := 5) (oi := Oper.mk (some 105) (Op.binOp BinOp.eql 3 (Operand.tmp 102) (Operand.tmp 104) 3) 4 "law.go:82" #[Edge.mk 2 Ground.data, Edge.mk 4 Ground.data] none) (v := ?_) rfl (by kernel_rfl) (by kernel_rfl) (by kernel_rfl) (fun _ _ _ h => h) (Or.inl ⟨by rfl, ?_⟩) (by assumption) ?_
              rotate_left 1
              · (intro w hSw; (try dsimp only at hSw); go_simp; (try with_reducible rfl))
              try simp only [Act.put, List.setIfInBounds_toArray, List.set_cons_zero, List.set_cons_succ]
              refine wpAnyH_take (i := 6) (oi := Oper.mk (some 106) (Op.move (Operand.tmp 105)) 4 "law.go:82" #[Edge.mk 5 Ground.data] none) (v := ?_) rfl (by kernel_rfl) (by kernel_rfl) (by kernel_rfl) (fun _ _ _ h => h) (Or.inl ⟨by rfl, ?_⟩) (by assumption) ?_
              rotate_left 1
              · (intro w hSw; (try dsimp only at hSw); go_simp; (try with_reducible rfl))
              try simp only [Act.put, List.setIfInBounds_toArray, List.set_cons_zero, List.set_cons_succ]
              refine wpAnyH_take (i := 7) (oi := Oper.mk (some 107) (Op.load 31 (Operand.tmp 7)) 31 "law.go:82" #[Edge.mk 6 Ground.guard] (some (6, true))) (v := ?_) rfl (by kernel_rfl) (by kernel_rfl) (by kernel_rfl) (fun _ _ _ h => h) (Or.inl ⟨by rfl, ?_⟩) (by assumption) ?_
              rotate_left 1
              · (intro w hSw; (try dsimp only at hSw); go_simp; (try with_reducible rfl))
              try simp only [Act.put, List.setIfInBounds_toArray, List.set_cons_zero, List.set_cons_succ]
              refine wpAnyH_take (i := 10) (oi := Oper.mk (some 110) (Op.load 31 (Operand.tmp 7)) 31 "law.go:82" #[Edge.mk 6 Ground.guard] (some (6, true))) (v := ?_) rfl (by kernel_rfl) (by kernel_rfl) (by kernel_rfl) (fun _ _ _ h => h) (Or.inl ⟨by rfl, ?_⟩) (by assumption) ?_
              rotate_left 1
              · (intro w hSw; (try dsimp only at hSw); go_simp; (try with_reducible rfl))
              try simp only [Act.put, List.setIfInBounds_toArray, List.set_cons_zero, List.set_cons_succ]
              refine wpAnyH_take (i := 11) (oi := Oper.mk (some 111) (Op.move (Operand.tmp 5)) 25 "law.go:82" #[Edge.mk 6 Ground.guard] (some (6, true))) (v := ?_) rfl (by kernel_rfl) (by kernel_rfl) (by kernel_rfl) (fun _ _ _ h => h) (Or.inl ⟨by rfl, ?_⟩) (by assumption) ?_
              rotate_left 1
              · (intro w hSw; (try dsimp only at hSw); go_simp; (try with_reducible rfl))
              try simp only [Act.put, List.setIfInBounds_toArray, List.set_cons_zero, List.set_cons_succ]
              refine wpAnyH_take (i := 15) (oi := Oper.mk (some 115) (Op.load 31 (Operand.tmp 7)) 31 "law.go:82" #[Edge.mk 6 Ground.guard] (some (6, true))) (v := ?_) rfl (by kernel_rfl) (by kernel_rfl) (by kernel_rfl) (fun _ _ _ h => h) (Or.inl ⟨by rfl, ?_⟩) (by assumption) ?_
              rotate_left 1
              · (intro w hSw; (try dsimp only at hSw); go_simp; (try with_reducible rfl))
              try simp only [Act.put, List.setIfInBounds_toArray, List.set_cons_zero, List.set_cons_succ]
              refine wpAnyH_take (i := 16) (oi := Oper.mk (some 116) (Op.move (Operand.tmp 5)) 25 "law.go:82" #[Edge.mk 6 Ground.guard] (some (6, true))) (v := ?_) rfl (by kernel_rfl) (by kernel_rfl) (by kernel_rfl) (fun _ _ _ h => h) (Or.inl ⟨by rfl, ?_⟩) (by assumption) ?_
              rotate_left 1
              · (intro w hSw; (try dsimp only at hSw); go_simp; (try with_reducible rfl))
              try simp only [Act.put, List.setIfInBounds_toArray, List.set_cons_zero, List.set_cons_succ]
              refine wpAnyH_take (i := 20) (oi := Oper.mk (some 120) (Op.move (Operand.tmp 1)) 23 "law.go:82" #[Edge.mk 6 Ground.guard] (some (6, true))) (v := ?_) rfl (by kernel_rfl) (by kernel_rfl) (by kernel_rfl) (fun _ _ _ h => h) (Or.inl ⟨by rfl, ?_⟩) (by assumption) ?_
              rotate_left 1
              · (intro w hSw; (try dsimp only at hSw); go_simp; (try with_reducible rfl))
              try simp only [Act.put, List.setIfInBounds_toArray, List.set_cons_zero, List.set_cons_succ]
              refine wpAnyH_take (i := 21) (oi := Oper.mk (some 121) (Op.call (Call.mk (Callee.builtin Builtin.len) #[Operand.tmp 120] #[23])) 3 "law.go:82" #[Edge.mk 20 Ground.data, Edge.mk 6 Ground.guard] (some (6, true))) (v := ?_) rfl (by kernel_rfl) (by kernel_rfl) (by kernel_rfl) (fun _ _ _ h => h) (Or.inl ⟨by rfl, ?_⟩) (by assumption) ?_
              rotate_left 1
              · (intro w hSw; (try dsimp only at hSw); go_simp; (try with_reducible rfl))
              try simp only [Act.put, List.setIfInBounds_toArray, List.set_cons_zero, List.set_cons_succ]
              refine wpAnyH_ready (rs := [8]) (by kernel_rfl) (by simp) ?_
              refine (AllReadyH.cons (o := Oper.mk (some 108) (Op.call (Call.mk (Callee.value (Operand.func 18)) #[Operand.tmp 107] #[31])) 29 "law.go:82" #[Edge.mk 7 Ground.data, Edge.mk 6 Ground.chain, Edge.mk 6 Ground.guard] (some (6, true))) rfl (fun K hK => ?_) AllReadyH.nil)
              go_simp
              go_at_call 18
              (with_reducible refine (CN.out _ HB0.out).mono ?_)
              rintro e9 X1 ⟨v9, rfl, ho, hb⟩
              obtain ⟨E2, d2, rfl, _, _⟩ := own_slice ho
              have HB1 := Lib.hid (HB0.out.trans (hb.mono HB0.out.size))
              have R2x1 := Lib.hid (own_mono ho HB0.out.size)
              clear ho hb HB0
              go_wp2_with fail
              refine hK.out _ _ ?_ (fun hH1 => ?_)
              · exact SH.out _ HB1.out
              clear hK K
              try clear hH0
              try simp only [Act.put, List.setIfInBounds_toArray, List.set_cons_zero, List.set_cons_succ]
              refine wpAnyH_take (i := 9) (oi := Oper.mk (some 109) (Op.call (Call.mk (Callee.builtin Builtin.len) #[Operand.tmp 108] #[29])) 3 "law.go:82" #[Edge.mk 8 Ground.data, Edge.mk 6 Ground.guard] (some (6, true))) (v := ?_) rfl (by kernel_rfl) (by kernel_rfl) (by kernel_rfl) (fun _ _ _ h => h) (Or.inl ⟨by rfl, ?_⟩) (by assumption) ?_
              rotate_left 1
              · (intro w hSw; (try dsimp only at hSw); go_simp; (try with_reducible rfl))
              try simp only [Act.put, List.setIfInBounds_toArray, List.set_cons_zero, List.set_cons_succ]
              refine wpAnyH_ready (rs := [12]) (by kernel_rfl) (by simp) ?_
              refine (AllReadyH.cons (o := Oper.mk (some 112) (Op.call (Call.mk (Callee.value (Operand.func 19)) #[Operand.tmp 110, Operand.tmp 111] #[31, 25])) 29 "law.go:82" #[Edge.mk 10 Ground.data, Edge.mk 11 Ground.data, Edge.mk 8 Ground.chain, Edge.mk 6 Ground.guard] (some (6, true))) rfl (fun K hK => ?_) AllReadyH.nil)
              go_simp
              go_at_call 19
              (with_reducible refine (CB.out _ HB1.out).mono ?_)
              rintro e9 X2 ⟨v9, rfl, ho, hb⟩
              obtain ⟨E3, d3, rfl, _, _⟩ := own_slice ho
              have HB2 := Lib.hid (HB1.out.trans (hb.mono HB1.out.size))
              have R3x2 := Lib.hid (own_mono ho HB1.out.size)
              have R2x2 := Lib.hid (own_below R2x1.out hb)
              clear R2x1
              clear ho hb HB1
              go_wp2_with fail
              refine hK.out _ _ ?_ (fun hH2 => ?_)
              · exact SH.out _ HB2.out
              clear hK K
              try clear hH1
              try simp only [Act.put, List.setIfInBounds_toArray, List.set_cons_zero, List.set_cons_succ]
              refine wpAnyH_take (i := 13) (oi := Oper.mk (some 113) (Op.call (Call.mk (Callee.builtin Builtin.len) #[Operand.tmp 112] #[29])) 3 "law.go:82" #[Edge.mk 12 Ground.data, Edge.mk 6 Ground.guard] (some (6, true))) (v := ?_) rfl (by kernel_rfl) (by kernel_rfl) (by kernel_rfl) (fun _ _ _ h => h) (Or.inl ⟨by rfl, ?_⟩) (by assumption) ?_
              rotate_left 1
              · (intro w hSw; (try dsimp only at hSw); go_simp; (try with_reducible rfl))
              try simp only [Act.put, List.setIfInBounds_toArray, List.set_cons_zero, List.set_cons_succ]
              refine wpAnyH_take (i := 14) (oi := Oper.mk (some 114) (Op.binOp BinOp.add 3 (Operand.tmp 109) (Operand.tmp 113) 3) 3 "law.go:82" #[Edge.mk 9 Ground.data, Edge.mk 13 Ground.data, Edge.mk 6 Ground.guard] (some (6, true))) (v := ?_) rfl (by kernel_rfl) (by kernel_rfl) (by kernel_rfl) (fun _ _ _ h => h) (Or.inl ⟨by rfl, ?_⟩) (by assumption) ?_
              rotate_left 1
              · (intro w hSw; (try dsimp only at hSw); go_simp; (try with_reducible rfl))
              try simp only [Act.put, List.setIfInBounds_toArray, List.set_cons_zero, List.set_cons_succ]
              refine wpAnyH_ready (rs := [17]) (by kernel_rfl) (by simp) ?_
              refine (AllReadyH.cons (o := Oper.mk (some 117) (Op.call (Call.mk (Callee.value (Operand.func 20)) #[Operand.tmp 115, Operand.tmp 116] #[31, 25])) 29 "law.go:82" #[Edge.mk 15 Ground.data, Edge.mk 16 Ground.data, Edge.mk 12 Ground.chain, Edge.mk 6 Ground.guard] (some (6, true))) rfl (fun K hK => ?_) AllReadyH.nil)
              go_simp
              go_at_call 20
              (with_reducible refine (CK.out _ HB2.out).mono ?_)
              rintro e9 X3 ⟨v9, rfl, ho, hb⟩
              obtain ⟨E4, d4, rfl, _, _⟩ := own_slice ho
              have HB3 := Lib.hid (HB2.out.trans (hb.mono HB2.out.size))
              have R4x3 := Lib.hid (own_mono ho HB2.out.size)
              have R2x3 := Lib.hid (own_below R2x2.out hb)
              clear R2x2
              have R3x3 := Lib.hid (own_below R3x2.out hb)
              clear R3x2
              clear ho hb HB2
              go_wp2_with fail
              refine hK.out _ _ ?_ (fun hH3 => ?_)
              · exact SH.out _ HB3.out
              clear hK K
              try clear hH2
              try simp only [Act.put, List.setIfInBounds_toArray, List.set_cons_zero, List.set_cons_succ]
              refine wpAnyH_take (i := 18) (oi := Oper.mk (some 118) (Op.call (Call.mk (Callee.builtin Builtin.len) #[Operand.tmp 117] #[29])) 3 "law.go:82" #[Edge.mk 17 Ground.data, Edge.mk 6 Ground.guard] (some (6, true))) (v := ?_) rfl (by kernel_rfl) (by kernel_rfl) (by kernel_rfl) (fun _ _ _ h => h) (Or.inl ⟨by rfl, ?_⟩) (by assumption) ?_
              rotate_left 1
              · (intro w hSw; (try dsimp only at hSw); go_simp; (try with_reducible rfl))
              try simp only [Act.put, List.setIfInBounds_toArray, List.set_cons_zero, List.set_cons_succ]
              refine wpAnyH_take (i := 19) (oi := Oper.mk (some 119) (Op.binOp BinOp.add 3 (Operand.tmp 114) (Operand.tmp 118) 3) 3 "law.go:82" #[Edge.mk 14 Ground.data, Edge.mk 18 Ground.data, Edge.mk 6 Ground.guard] (some (6, true))) (v := ?_) rfl (by kernel_rfl) (by kernel_rfl) (by kernel_rfl) (fun _ _ _ h => h) (Or.inl ⟨by rfl, ?_⟩) (by assumption) ?_
              rotate_left 1
              · (intro w hSw; (try dsimp only at hSw); go_simp; (try with_reducible rfl))
              try simp only [Act.put, List.setIfInBounds_toArray, List.set_cons_zero, List.set_cons_succ]
              refine wpAnyH_take (i := 22) (oi := Oper.mk (some 122) (Op.binOp BinOp.eql 3 (Operand.tmp 119) (Operand.tmp 121) 3) 4 "law.go:82" #[Edge.mk 19 Ground.data, Edge.mk 21 Ground.data, Edge.mk 6 Ground.guard] (some (6, true))) (v := ?_) rfl (by kernel_rfl) (by kernel_rfl) (by kernel_rfl) (fun _ _ _ h => h) (Or.inl ⟨by rfl, ?_⟩) (by assumption) ?_
              rotate_left 1
              · (intro w hSw; (try dsimp only at hSw); go_simp; (try with_reducible rfl))
              try simp only [Act.put, List.setIfInBounds_toArray, List.set_cons_zero, List.set_cons_succ]
              refine wpAnyH_take (i := 23) (oi := Oper.mk (some 123) (Op.pick (Operand.tmp 106) (Operand.tmp 122) (Operand.const (Value.bool false))) 4 "law.go:82" #[Edge.mk 6 Ground.data, Edge.mk 22 Ground.data] none) (v := ?_) rfl (by kernel_rfl) (by kernel_rfl) (by kernel_rfl) (fun _ _ _ h => h) (Or.inl ⟨by rfl, ?_⟩) (by assumption) ?_
              rotate_left 1
              · (intro w hSw; (try dsimp only at hSw); go_simp; (try with_reducible rfl))
              try simp only [Act.put, List.setIfInBounds_toArray, List.set_cons_zero, List.set_cons_succ]
              refine wpAnyH_take (i := 24) (oi := Oper.mk (some 4) (Op.assign (Operand.tmp 123)) 4 "law.go:82" #[Edge.mk 23 Ground.data, Edge.mk 17 Ground.chain, Edge.mk 0 Ground.phase, Edge.mk 1 Ground.phase, Edge.mk 2 Ground.phase, Edge.mk 3 Ground.phase, Edge.mk 4 Ground.phase, Edge.mk 5 Ground.phase, Edge.mk 6 Ground.phase, Edge.mk 7 Ground.phase, Edge.mk 8 Ground.phase, Edge.mk 9 Ground.phase, Edge.mk 10 Ground.phase, Edge.mk 11 Ground.phase, Edge.mk 12 Ground.phase, Edge.mk 13 Ground.phase, Edge.mk 14 Ground.phase, Edge.mk 15 Ground.phase, Edge.mk 16 Ground.phase, Edge.mk 17 Ground.phase, Edge.mk 18 Ground.phase, Edge.mk 19 Ground.phase, Edge.mk 20 Ground.phase, Edge.mk 21 Ground.phase, Edge.mk 22 Ground.phase, Edge.mk 23 Ground.phase] none) (v := ?_) rfl (by kernel_rfl) (by kernel_rfl) (by kernel_rfl) (fun _ _ _ h => h) (Or.inl ⟨by rfl, ?_⟩) (by assumption) ?_
              rotate_left 1
              · (intro w hSw; (try dsimp only at hSw); go_simp; (try with_reducible rfl))
              try simp only [Act.put, List.setIfInBounds_toArray, List.set_cons_zero, List.set_cons_succ]
              refine wpAnyH_done (by kernel_rfl) ?_ _
              go_wp2_with fail
              go_ret
              exact ⟨ret_bool' HSUM.out, HBU.out.trans (HB3.out.mono HBU.out.size)⟩
end Go.Proofs.Ytjflmkeagheilaa
