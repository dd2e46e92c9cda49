/- Contract of the document's Add of a timer. (By gen_r3.py.) -/
import Derived.Test.YtdbgmogllncffaaWhR2
import Derived.BigQuiet
import Derived.Maps.AppendAt
namespace Go.Proofs.Ytdbgmogllncffaa
open Go.RowKit Go.Sort Wh
attribute [-go_sem] Builtin.append_
theorem at_addA {w : World} {a : Addr} {xs : List Value} (h : At w (some a) xs) : ∀ j u, xs[j]? = some u → w.cell? (a.add j) = some u := by
  intro j u hu
  obtain ⟨b, o, e, _, hc⟩ := h (fun e => by rw [e] at hu; cases hu)
  injection e with e
  subst e
  have e2 : (⟨b, o, none⟩ : Addr).add j = ⟨b, o + j, none⟩ := by
    unfold Addr.add
    by_cases h0 : j = 0 <;> simp [h0]
  rw [e2]
  exact hc j u hu
theorem at_add {w : World} {b o : Nat} {xs : List Value} (h : At w (some ⟨b, o, none⟩) xs) : ∀ j u, xs[j]? = some u → w.cell? ((⟨b, o, none⟩ : Addr).add j) = some u := at_addA h
theorem at_take4 {w : World} {A : Option Addr} {L : List Tm} (h : At w A (tv L)) (k : Nat) (hk : k ≤ L.length) : At w A (tv (L.take k)) := by
  rw [← tv_take L k hk]; exact h.take _
/-- the world ahead of the tests. -/
def rw0 (w : World) (most last kk nn : Int) (A : Option Addr) (n c : Nat) : World := ((w.alloc (.cells #[.int .i64 most, .int .i64 last, .slice A n c] 28)).alloc (.cells #[.int .i64 kk, .int .i64 nn] 33)).alloc (.cells #[.int .i64 0, .int .i64 0, .slice none 0 0] 28)
theorem rw0_facts (w : World) (most last kk nn : Int) (A : Option Addr) (n c : Nat) : Below w.heap.size w (rw0 w most last kk nn A n c) ∧ (rw0 w most last kk nn A n c).heap.size = w.heap.size + 1 + 1 + 1 ∧ Blk (rw0 w most last kk nn A n c) w.heap.size 28 #[.int .i64 most, .int .i64 last, .slice A n c] ∧ Blk (rw0 w most last kk nn A n c) (w.heap.size + 1) 33 #[.int .i64 kk, .int .i64 nn] ∧ Blk (rw0 w most last kk nn A n c) (w.heap.size + 1 + 1) 28 #[.int .i64 0, .int .i64 0, .slice none 0 0] := by
  unfold rw0
  refine ⟨?_, by simp, ((Blk.new w _ _).alloc _).alloc _, ?_, ?_⟩
  · exact beside_none ((((Beside.refl (fun _ => False) w).alloc _).alloc _).alloc _)
  · exact (Blk.new' (w.alloc (.cells #[.int .i64 most, .int .i64 last, .slice A n c] 28)) _ _ _ (by simp)).alloc _
  · exact Blk.new' ((w.alloc (.cells #[.int .i64 most, .int .i64 last, .slice A n c] 28)).alloc (.cells #[.int .i64 kk, .int .i64 nn] 33)) _ _ _ (by simp)
set_option maxHeartbeats 4000000 in
set_option maxRecDepth 100000 in
theorem radd_full (most last dl kk nn : Int) (A : Option Addr) (n c : Nat) (w : World) (hf : (n : Int) = most) :
    Calls Try.prog 18 #[rv16 most last A n c, .int .i64 dl, .agg #[.int .i64 kk, .int .i64 nn]] w fun e w' => e = .returned (.tuple #[rv16 most last A n c, .int .i64 0, .int .i64 9]) ∧ Below w.heap.size w w' := by
  unfold rv16
  obtain ⟨hb, hs, h0, h1, h2⟩ := rw0_facts w most last kk nn A n c
  obtain ⟨V, hV⟩ : ∃ V, V = rw0 w most last kk nn A n c := ⟨_, rfl⟩
  rw [← hV] at hb hs h0 h1 h2
  have a0 : V.cell? ⟨w.heap.size, 0, none⟩ = some (.int .i64 most) := h0.cell 0 rfl
  have a1 : V.cell? ⟨w.heap.size, 1, none⟩ = some (.int .i64 last) := h0.cell 1 rfl
  have a2 : V.cell? ⟨w.heap.size, 2, none⟩ = some (.slice A n c) := h0.cell 2 rfl
  have b0 : V.cell? ⟨w.heap.size + 1 + 1, 0, none⟩ = some (.int .i64 0) := h2.cell 0 rfl
  have b1 : V.cell? ⟨w.heap.size + 1 + 1, 1, none⟩ = some (.int .i64 0) := h2.cell 1 rfl
  have b2 : V.cell? ⟨w.heap.size + 1 + 1, 2, none⟩ = some (.slice none 0 0) := h2.cell 2 rfl
  have c0 : V.frozen? ⟨w.heap.size + 1 + 1, 0, none⟩ = false := h2.frozen 0
  have c1 : V.frozen? ⟨w.heap.size + 1 + 1, 1, none⟩ = false := h2.frozen 1
  have c2 : V.frozen? ⟨w.heap.size + 1 + 1, 2, none⟩ = false := h2.frozen 2
  obtain ⟨Z, hZ⟩ : ∃ Z, Z = set3 V (w.heap.size + 1 + 1) (.int .i64 most) (.int .i64 last) (.slice A n c) := ⟨_, rfl⟩
  have HR1 : Hid (Blk Z (w.heap.size + 1 + 1) 28 #[.int .i64 most, .int .i64 last, .slice A n c]) := by rw [hZ]; exact blk_set3 h2 _ _ _
  have HE : Hid (Below w.heap.size w Z) := by rw [hZ]; exact beside_none (beside_set3 (Beside.ofBelow hb) (.inr (by omega)) _ _ _)
  unfold set3 at hZ
  unfold rw0 at hV
  have HV := Lib.hid hV
  have HZ := Lib.hid hZ
  have hfb : ((n : Int) == most) = true := beq_iff_eq.2 hf
  clear hV hZ hb hs h0 h1 h2 hf
  go_enter Try.func18, Try.ntmps18
  go_upto_region 1 with fail
  rw [← HV.out]
  go_wp2
  rw [← HZ.out]
  try simp only [Exit.inBlock, Exit.then]
  refine bodyPost_ret (results_mid_tmp2 rfl _ _ (w.heap.size + 1 + 1) 0 [.int .i64 most, .int .i64 last, .slice A n c] _ rfl (blk_range HR1.out) Try.underlying28 rfl (by kernel_rfl)) rfl ?_
  exact ⟨rfl, HE.out⟩
/-- what the document's Add keeps in its loop. -/
structure Ra (w W : World) (gw : Nat) (most last dd kk nn : Int) (A : Option Addr) (n c : Nat) : Prop where
  x : Blk W gw 28 #[.int .i64 most, .int .i64 (last + 1), .slice A n c]
  r : Blk W (gw + 1 + 1) 28 #[.int .i64 0, .int .i64 0, .slice none 0 0]
  t : Blk W (gw + 1 + 1 + 1) 63 #[.int .i64 (last + 1), .int .i64 dd, .int .i64 kk, .int .i64 nn]
  b : Below gw w W
  s : gw + 1 + 1 + 1 < W.heap.size
theorem Ra.below {w W W' : World} {gw : Nat} {most last dd kk nn : Int} {A : Option Addr} {n c : Nat} (h : Ra w W gw most last dd kk nn A n c) (hb : Below W.heap.size W W') : Ra w W' gw most last dd kk nn A n c :=
  ⟨h.x.below hb, h.r.below hb, h.t.below hb, h.b.trans (hb.mono (by have := h.s; omega)), Nat.lt_of_lt_of_le h.s hb.size⟩
theorem Ra.drewN {w W : World} {gw : Nat} {most last dd kk nn : Int} {A : Option Addr} {n c : Nat} (h : Ra w W gw most last dd kk nn A n c) (q : Nat) : Ra w (W.drewN q) gw most last dd kk nn A n c :=
  ⟨h.x, h.r, h.t, ⟨h.b.os, h.b.tape, h.b.output, h.b.size, h.b.block⟩, h.s⟩
theorem Ra.grow {w W W' : World} {gw : Nat} {most last dd kk nn : Int} {A : Option Addr} {n c : Nat} {row : Option Nat} (h : Ra w W gw most last dd kk nn A n c) (hg : W.grownBy W' row) (hr : ∀ q, row = some q → gw + 4 ≤ q) : Ra w W' gw most last dd kk nn A n c := by
  have hne : ∀ q, q < gw + 4 → some q ≠ row := fun q hq e => by have := hr q e.symm; omega
  exact ⟨h.x.grown hg (hne _ (by omega)), h.r.grown hg (hne _ (by omega)), h.t.grown hg (hne _ (by omega)), h.b.grown hg (by have := h.s; omega) (fun q hq => by have := hr q hq; omega), Nat.lt_of_lt_of_le h.s hg.size⟩
theorem Ra.apnd {w W W' : World} {gw : Nat} {most last dd kk nn : Int} {A : Option Addr} {n c : Nat} {row : Option Nat} (h : Ra w W gw most last dd kk nn A n c) (o : Obj) (hg : (W.alloc o).grownBy W' row) (hr : ∀ q, row = some q → gw + 4 ≤ q) : Ra w W' gw most last dd kk nn A n c := (h.below (below_alloc W o)).grow hg hr
set_option maxHeartbeats 8000000 in
set_option maxRecDepth 100000 in
theorem radd_some (most last dl kk nn dd : Int) (b9 o9 : Nat) (n c : Nat) (L : List Tm) (w : World) (hdd : clp dl 0 1099511627776 = dd) (hl0 : 0 ≤ last) (hl1 : last ≤ 1000000000) (hf : (n : Int) ≠ most) (hn : n = L.length) (hnc : n ≤ c) (hb6 : n ≤ 65536) (ha : At w (some ⟨b9, o9, none⟩) (tv L)) :
    Calls Try.prog 18 #[rv16 most last (some ⟨b9, o9, none⟩) n c, .int .i64 dl, .agg #[.int .i64 kk, .int .i64 nn]] w fun e w' => ∃ A' c' k, e = .returned (.tuple #[rv16 most (last + 1) A' (n + 1) c', .int .i64 (last + 1), .int .i64 0]) ∧ k ≤ n ∧ (∀ j, j < k → (g L j).dl ≤ dd) ∧ (k < n → dd < (g L k).dl) ∧ At w' A' (tv (L.take k ++ [⟨last + 1, dd, kk, nn⟩] ++ L.drop k)) ∧ n + 1 ≤ c' ∧ c' ≤ maxLen ∧ A' ≠ none ∧ (∀ b' o p, A' = some ⟨b', o, p⟩ → w.heap.size ≤ b' ∧ p = none) ∧ Below w.heap.size w w' := by
  have mixed : Try.prog.follows .mixedOrders = true := by kernel_rfl
  unfold rv16
  obtain ⟨i0, hi, hz0, hz1, hz2⟩ := info_parts infoRm
  obtain ⟨hb, hs, h0, h1, h2⟩ := rw0_facts w most last kk nn (some ⟨b9, o9, none⟩) n c
  obtain ⟨V, hV⟩ : ∃ V, V = rw0 w most last kk nn (some ⟨b9, o9, none⟩) n c := ⟨_, rfl⟩
  rw [← hV] at hb hs h0 h1 h2
  have a0 : V.cell? ⟨w.heap.size, 0, none⟩ = some (.int .i64 most) := h0.cell 0 rfl
  have a1 : V.cell? ⟨w.heap.size, 1, none⟩ = some (.int .i64 last) := h0.cell 1 rfl
  have a1f : V.frozen? ⟨w.heap.size, 1, none⟩ = false := h0.frozen 1
  have a2 : V.cell? ⟨w.heap.size, 2, none⟩ = some (.slice (some ⟨b9, o9, none⟩) n c) := h0.cell 2 rfl
  obtain ⟨T, hT⟩ : ∃ T, T = V.setCell ⟨w.heap.size, 1, none⟩ (.int .i64 (last + 1)) := ⟨_, rfl⟩
  have t0 : Blk T w.heap.size 28 #[.int .i64 most, .int .i64 (last + 1), .slice (some ⟨b9, o9, none⟩) n c] := by rw [hT]; exact h0.set 1 _
  have t1 : Blk T (w.heap.size + 1) 33 #[.int .i64 kk, .int .i64 nn] := by rw [hT]; exact h1.other _ _ _ (by omega)
  have t2 : Blk T (w.heap.size + 1 + 1) 28 #[.int .i64 0, .int .i64 0, .slice none 0 0] := by rw [hT]; exact h2.other _ _ _ (by omega)
  have hsT : T.heap.size = w.heap.size + 1 + 1 + 1 := by rw [hT]; simpa using hs
  have hbT : Below w.heap.size w T := by rw [hT]; exact beside_none ((Beside.ofBelow hb : Beside (fun _ => False) w V).set (.inr (Nat.le_refl _)) 1 _)
  have p1 : T.cell? ⟨w.heap.size, 1, none⟩ = some (.int .i64 (last + 1)) := t0.cell 1 rfl
  have j0 : T.cell? ⟨w.heap.size + 1, 0, none⟩ = some (.int .i64 kk) := t1.cell 0 rfl
  have j1 : T.cell? ⟨w.heap.size + 1, 1, none⟩ = some (.int .i64 nn) := t1.cell 1 rfl
  obtain ⟨U, hU⟩ : ∃ U, U = T.alloc (.cells #[.int .i64 (last + 1), .int .i64 dd, .int .i64 kk, .int .i64 nn] 63) := ⟨_, rfl⟩
  have RA : Hid (Ra w U w.heap.size most last dd kk nn (some ⟨b9, o9, none⟩) n c) := by
    have e3 : Blk U (w.heap.size + 1 + 1 + 1) 63 #[.int .i64 (last + 1), .int .i64 dd, .int .i64 kk, .int .i64 nn] := by rw [hU]; exact Blk.new' T _ _ _ hsT
    exact ⟨by rw [hU]; exact t0.alloc _, by rw [hU]; exact t2.alloc _, e3, by rw [hU]; exact hbT.alloc hbT.size _, e3.lt⟩
  have hwl : IntKind.i64.wrap (last + 1) = last + 1 := by rw [IntKind.wrap_i64]; omega
  unfold clp at hdd
  have HT := Lib.hid hT
  have HU := Lib.hid hU
  have HST := Lib.hid hsT
  unfold rw0 at hV
  have HV := Lib.hid hV
  have HN := Lib.hid hn
  have HA := Lib.hid ha
  have hfb : ((n : Int) == most) = false := by simpa using hf
  obtain ⟨gw, hgw⟩ : ∃ gw, gw = w.heap.size := ⟨_, rfl⟩
  have HG := Lib.hid hgw
  clear hV hT hU hb hs h0 h1 h2 t0 t1 t2 hsT hbT hn ha
  go_enter Try.func18, Try.ntmps18
  go_upto_region 1 with fail
  rw [← HV.out]
  go_upto_region 4 with fail
  rw [← HT.out]
  go_upto_region 5 with fail
  rw [← HU.out]
  try rw [HST.out]
  rw [← hgw] at RA ⊢
  clear hgw a0 a1 a1f a2 p1 j0 j1 hfb hf hdd HV HT HU
  go_wp2_with fail
  go_loopw [10] (fun vk W => ∃ k : Nat, vk = .int .i64 k ∧ k ≤ n ∧ Hid (Ra w W gw most last dd kk nn (some ⟨b9, o9, none⟩) n c) ∧ Hid (∀ j, j < k → (g L j).dl ≤ dd)) (fun vk _ => n - (intOf vk).toNat)
  case atStart => exact ⟨0, rfl, Nat.zero_le _, RA, Lib.hid fun j hj => absurd hj (Nat.not_lt_zero _)⟩
  case round =>
    clear RA
    obtain ⟨k, rfl, hk, RA, HLE⟩ := hrel
    have x2 : wr.cell? ⟨gw, 2, none⟩ = some (.slice (some ⟨b9, o9, none⟩) n c) := RA.out.x.cell 2 rfl
    have t1 : wr.cell? ⟨gw + 1 + 1 + 1, 1, none⟩ = some (.int .i64 dd) := RA.out.t.cell 1 rfl
    have x2N : ∀ q, (wr.drewN q).cell? ⟨gw, 2, none⟩ = some (.slice (some ⟨b9, o9, none⟩) n c) := fun _ => x2
    have t1N : ∀ q, (wr.drewN q).cell? ⟨gw + 1 + 1 + 1, 1, none⟩ = some (.int .i64 dd) := fun _ => t1
    by_cases hlt : k < n
    · have hkL : k < L.length := by have := HN.out; omega
      obtain ⟨hb9, _, k1, _, _⟩ := act_cells HA.out hkL
      have hbg : b9 < gw := by have := HG.out; omega
      have c1 := (RA.out.b.cell (p := ⟨b9, o9 + k * 4 + 1, none⟩) hbg).trans k1
      have c1N : ∀ q, (wr.drewN q).cell? ⟨b9, o9 + k * 4 + 1, none⟩ = some (.int .i64 (g L k).dl) := fun _ => c1
      have d1 : (k : Int) < (n : Int) := by omega
      have d0 : (0 : Int) ≤ (k : Int) := by omega
      have d1b : decide (k < n) = true := decide_eq_true hlt
      clear k1 hb9 hbg hkL
      by_cases hle : (g L k).dl ≤ dd
      · have HLE2 : Hid (∀ j, j < k + 1 → (g L j).dl ≤ dd) := fun j hj => by
          rcases Nat.lt_or_ge j k with h1 | h1
          · exact HLE.out j h1
          · rw [show j = k by omega]; exact hle
        have hleb : decide ((g L k).dl ≤ dd) = true := decide_eq_true hle
        generalize (g L k).dl = y at c1 c1N hleb
        clear hle
        go_wp2_with fail
        go_big_quiet (fail)
        go_wp2
        exact ⟨⟨k + 1, rfl, by omega, Lib.hid (RA.out.drewN _), HLE2⟩, by simp only [intOf]; omega⟩
      · have HST : Hid (k < n → dd < (g L k).dl) := fun _ => by omega
        have hleb : decide ((g L k).dl ≤ dd) = false := decide_eq_false hle
        generalize (g L k).dl = y at c1 c1N hleb
        clear hle
        go_wp2_with fail
        go_big_quiet (fail)
        have RA1 := Lib.hid (RA.out.drewN nq)
        have HL : Hid (At (wr.drewN nq) (some ⟨b9, o9, none⟩) (tv L)) := HA.out.below (by rw [← HG.out]; exact RA1.out.b)
        generalize wr.drewN nq = D at *
        have hL := HN.out
        have hsD := RA1.out.s
        obtain ⟨v1, w1, hrun1, hown1, hgrow1, _, _⟩ := run_append_own_at (P := Try.prog) (D.alloc (.cells #[] 63)) (gw + 4) 26 26 63 i0 _ 4 32 Try.underlying26 hi hz0 hz1 hz2 rfl (by decide) _ 0 [] (own_made D _ rfl (by omega)) ⟨b9, o9, none⟩ k c (tv (L.take k)) (by rw [tv_len, List.length_take]; omega) (at_add ((at_take4 HL.out k (by omega)).alloc _)) (tv_one _) (by unfold maxLen; omega) (by omega) (by simp; omega)
        rw [Nat.zero_add, List.nil_append] at hown1
        have RA2 : Ra w w1 gw most last dd kk nn (some ⟨b9, o9, none⟩) n c := RA1.out.apnd (.cells #[] 63) hgrow1 (fun q hq => by injection hq with hq; simp only at hq; omega)
        have HL1 : At w1 (some ⟨b9, o9, none⟩) (tv L) := HA.out.below (by rw [← HG.out]; exact RA2.b)
        have hs1 := RA2.s
        obtain ⟨A1, c1', rfl, _, _⟩ := own_slice hown1
        obtain ⟨O, hO⟩ : ∃ O : Obj, O = .cells #[.int .i64 (last + 1), .int .i64 dd, .int .i64 kk, .int .i64 nn] 63 := ⟨_, rfl⟩
        obtain ⟨v2, w2, hrun2, hown2, hgrow2, _, _⟩ := run_append_own_at (P := Try.prog) (w1.alloc (.cells #[.int .i64 (last + 1), .int .i64 dd, .int .i64 kk, .int .i64 nn] 63)) (gw + 4) 26 26 63 i0 _ 4 32 Try.underlying26 hi hz0 hz1 hz2 rfl (by decide) _ _ _ (own_below hown1 (below_alloc w1 (.cells #[.int .i64 (last + 1), .int .i64 dd, .int .i64 kk, .int .i64 nn] 63))) ⟨w1.heap.size, 0, none⟩ 1 1 [.int .i64 (last + 1), .int .i64 dd, .int .i64 kk, .int .i64 nn] rfl (cells_new' _ _ _ _ rfl _ rfl) (by intro u hu; simp at hu; rcases hu with rfl | rfl | rfl | rfl <;> rfl) (by unfold maxLen; omega) (by omega) (by simp; omega)
        have hfr1 := own_from hown1
        have RA3 : Ra w w2 gw most last dd kk nn (some ⟨b9, o9, none⟩) n c := RA2.apnd (.cells #[.int .i64 (last + 1), .int .i64 dd, .int .i64 kk, .int .i64 nn] 63) hgrow2 (fun q hq => hfr1 q hq)
        have HL2 : At w2 (some ⟨b9, o9, none⟩) (tv L) := HA.out.below (by rw [← HG.out]; exact RA3.b)
        have hs2 := RA3.s
        obtain ⟨A2, c2', rfl, _, _⟩ := own_slice hown2
        have hat3 := at_cut4 HL2 k (by omega : L.length ≤ c)
        obtain ⟨a3, ha3⟩ : ∃ a3 : Addr, (if c = k then some (⟨b9, o9, none⟩ : Addr) else some ⟨b9, o9 + k * 4, none⟩) = some a3 := by split <;> exact ⟨_, rfl⟩
        rw [ha3] at hat3
        obtain ⟨v3, w3, hrun3, hown3, hgrow3, _, _⟩ := run_append_own_at (P := Try.prog) w2 (gw + 4) 26 26 63 i0 _ 4 32 Try.underlying26 hi hz0 hz1 hz2 rfl (by decide) _ _ _ hown2 a3 (n - k) (c - k) (tv (L.drop k)) (by rw [tv_len, List.length_drop]; omega) (at_addA hat3) (tv_one _) (by unfold maxLen; omega) (by omega) (by omega)
        have hck : ¬ (c = k) := by omega
        rw [← ha3, if_neg hck] at hrun3
        have hfr2 := own_from hown2
        have RA4 : Ra w w3 gw most last dd kk nn (some ⟨b9, o9, none⟩) n c := RA3.grow hgrow3 (fun q hq => hfr2 q hq)
        have hown4 : w3.ownsRow (gw + 4) 63 4 v3 (n + 1) (tv (L.take k ++ [⟨last + 1, dd, kk, nn⟩] ++ L.drop k)) := by
          rw [show k + 1 + (n - k) = n + 1 by omega] at hown3
          rw [tv_app, tv_app]
          exact hown3
        obtain ⟨A3, c3', rfl, h31, h32⟩ := own_slice hown4
        obtain ⟨g3, _, hv3, hg3, hg3l, _, _⟩ := own_head hown4 (by omega)
        injection hv3 with hA3 _ hcc3
        clear hcc3
        obtain ⟨Y, hY⟩ : ∃ Y, Y = w3.setCell ⟨gw, 2, none⟩ (.slice A3 (n + 1) c3') := ⟨_, rfl⟩
        have y0 : Blk Y gw 28 #[.int .i64 most, .int .i64 (last + 1), .slice A3 (n + 1) c3'] := by rw [hY]; exact RA4.x.set 2 _
        have y1 : Blk Y (gw + 1 + 1) 28 #[.int .i64 0, .int .i64 0, .slice none 0 0] := by rw [hY]; exact RA4.r.other _ _ _ (by omega)
        have y2 : Blk Y (gw + 1 + 1 + 1) 63 #[.int .i64 (last + 1), .int .i64 dd, .int .i64 kk, .int .i64 nn] := by rw [hY]; exact RA4.t.other _ _ _ (by omega)
        obtain ⟨Z, hZ⟩ : ∃ Z, Z = (set3 Y (gw + 1 + 1) (.int .i64 most) (.int .i64 (last + 1)) (.slice A3 (n + 1) c3')).drew := ⟨_, rfl⟩
        have HR1 : Hid (Blk Z (gw + 1 + 1) 28 #[.int .i64 most, .int .i64 (last + 1), .slice A3 (n + 1) c3']) := by rw [hZ]; exact (blk_set3 y1 _ _ _).drew
        have HE : Hid (Below w.heap.size w Z) := by
          rw [hZ, hY]
          exact Below_drew (beside_none (beside_set3 ((Beside.ofBelow (by rw [← HG.out]; exact RA4.b) : Beside (fun _ => False) w w3).set (.inr (by have := HG.out; omega)) 2 _) (.inr (by have := HG.out; omega)) _ _ _))
        have HAT : Hid (At Z A3 (tv (L.take k ++ [⟨last + 1, dd, kk, nn⟩] ++ L.drop k))) := by
          have h9 : Beside (fun x => x = gw ∨ x = gw + 1 + 1) w3 Z := by
            rw [hZ, hY]
            exact (beside_set3 ((Beside.refl _ w3).set (.inl (.inl rfl)) 2 _) (.inl (.inr rfl)) _ _ _).drewN 1
          refine h9.at (At.own hown4) ?_
          intro b o p e h8
          rw [hA3] at e
          injection e with e
          injection e with e
          omega
        have HNO : Hid (A3 ≠ none) := by rw [hA3]; intro e; cases e
        have HNEW : Hid (∀ b' o p, A3 = some ⟨b', o, p⟩ → w.heap.size ≤ b' ∧ p = none) := fun b' o p e => by have h9 := own_new hown4 b' o p e; have h8 := HG.out; exact ⟨by omega, h9.2.1⟩
        have x2D : D.cell? ⟨gw, 2, none⟩ = some (.slice (some ⟨b9, o9, none⟩) n c) := RA1.out.x.cell 2 rfl
        have m0 : w1.cell? ⟨gw + 1 + 1 + 1, 0, none⟩ = some (.int .i64 (last + 1)) := RA2.t.cell 0 rfl
        have m1 : w1.cell? ⟨gw + 1 + 1 + 1, 1, none⟩ = some (.int .i64 dd) := RA2.t.cell 1 rfl
        have m2 : w1.cell? ⟨gw + 1 + 1 + 1, 2, none⟩ = some (.int .i64 kk) := RA2.t.cell 2 rfl
        have m3 : w1.cell? ⟨gw + 1 + 1 + 1, 3, none⟩ = some (.int .i64 nn) := RA2.t.cell 3 rfl
        have x22 : w2.cell? ⟨gw, 2, none⟩ = some (.slice (some ⟨b9, o9, none⟩) n c) := RA3.x.cell 2 rfl
        have x23 : w3.cell? ⟨gw, 2, none⟩ = some (.slice (some ⟨b9, o9, none⟩) n c) := RA4.x.cell 2 rfl
        have x2D2 : (D.alloc (.cells #[] 63)).cell? ⟨gw, 2, none⟩ = some (.slice (some ⟨b9, o9, none⟩) n c) := (RA1.out.x.alloc _).cell 2 rfl
        have x23f : w3.frozen? ⟨gw, 2, none⟩ = false := RA4.x.frozen 2
        have u0 : Y.cell? ⟨gw, 0, none⟩ = some (.int .i64 most) := y0.cell 0 rfl
        have u1 : Y.cell? ⟨gw, 1, none⟩ = some (.int .i64 (last + 1)) := y0.cell 1 rfl
        have u2 : Y.cell? ⟨gw, 2, none⟩ = some (.slice A3 (n + 1) c3') := y0.cell 2 rfl
        have s0 : Y.cell? ⟨gw + 1 + 1, 0, none⟩ = some (.int .i64 0) := y1.cell 0 rfl
        have sf0 : Y.frozen? ⟨gw + 1 + 1, 0, none⟩ = false := y1.frozen 0
        have s1 : Y.cell? ⟨gw + 1 + 1, 1, none⟩ = some (.int .i64 0) := y1.cell 1 rfl
        have sf1 : Y.frozen? ⟨gw + 1 + 1, 1, none⟩ = false := y1.frozen 1
        have s2 : Y.cell? ⟨gw + 1 + 1, 2, none⟩ = some (.slice none 0 0) := y1.cell 2 rfl
        have sf2 : Y.frozen? ⟨gw + 1 + 1, 2, none⟩ = false := y1.frozen 2
        have t0 : Y.cell? ⟨gw + 1 + 1 + 1, 0, none⟩ = some (.int .i64 (last + 1)) := y2.cell 0 rfl
        have u0d : Y.drew.cell? ⟨gw, 0, none⟩ = some (.int .i64 most) := y0.cell 0 rfl
        have u1d : Y.drew.cell? ⟨gw, 1, none⟩ = some (.int .i64 (last + 1)) := y0.cell 1 rfl
        have u2d : Y.drew.cell? ⟨gw, 2, none⟩ = some (.slice A3 (n + 1) c3') := y0.cell 2 rfl
        have s0d : Y.drew.cell? ⟨gw + 1 + 1, 0, none⟩ = some (.int .i64 0) := y1.cell 0 rfl
        have sf0d : Y.drew.frozen? ⟨gw + 1 + 1, 0, none⟩ = false := y1.frozen 0
        have s1d : Y.drew.cell? ⟨gw + 1 + 1, 1, none⟩ = some (.int .i64 0) := y1.cell 1 rfl
        have sf1d : Y.drew.frozen? ⟨gw + 1 + 1, 1, none⟩ = false := y1.frozen 1
        have s2d : Y.drew.cell? ⟨gw + 1 + 1, 2, none⟩ = some (.slice none 0 0) := y1.cell 2 rfl
        have sf2d : Y.drew.frozen? ⟨gw + 1 + 1, 2, none⟩ = false := y1.frozen 2
        have t0d : Y.drew.cell? ⟨gw + 1 + 1 + 1, 0, none⟩ = some (.int .i64 (last + 1)) := y2.cell 0 rfl
        unfold set3 at hZ
        have HY := Lib.hid hY
        have HZ := Lib.hid hZ
        have z1 : (k : Int) ≤ (n : Int) := by omega
        have z0 : (0 : Int) ≤ (k : Int) := by omega
        have z2 : (k : Int) ≤ (c : Int) := by omega
        have z3 : (n : Int) ≤ (c : Int) := by omega
        clear hY hZ RA1 RA2 RA3 RA4 RA HL HL1 HL2 hown1 hown2 hown3 hown4 hgrow1 hgrow2 hgrow3 hfr1 hfr2 hat3 ha3 hO O y0 y1 y2 hL hsD hs1 hs2 hg3 hg3l hA3
        go_upto_region 11 with fail
        all_goals
          rw [← HY.out]
          change Code.wp _ _ _ _ Y
          go_region
          go_wp2
          all_goals
            rw [← HZ.out]
            try simp only [Exit.inBlock, Exit.then]
            refine bodyPost_ret (results_mid_tmp2 rfl _ _ (gw + 1 + 1) 0 [.int .i64 most, .int .i64 (last + 1), .slice A3 (n + 1) c3'] _ rfl (blk_range HR1.out) Try.underlying28 rfl (by kernel_rfl)) rfl ?_
            exact ⟨A3, c3', rfl, k, hk, HLE.out, HST.out, (by simpa using HAT.out), h31, h32, HNO.out, HNEW.out, HE.out⟩
    · have HST : Hid (k < n → dd < (g L k).dl) := fun h => absurd h hlt
      have d1b : decide (k < n) = false := decide_eq_false hlt
      go_wp2_with fail
      go_big_quiet (fail)
      have RA1 := Lib.hid (RA.out.drewN nq)
      have HL : Hid (At (wr.drewN nq) (some ⟨b9, o9, none⟩) (tv L)) := HA.out.below (by rw [← HG.out]; exact RA1.out.b)
      generalize wr.drewN nq = D at *
      have hL := HN.out
      have hsD := RA1.out.s
      obtain ⟨v1, w1, hrun1, hown1, hgrow1, _, _⟩ := run_append_own_at (P := Try.prog) (D.alloc (.cells #[] 63)) (gw + 4) 26 26 63 i0 _ 4 32 Try.underlying26 hi hz0 hz1 hz2 rfl (by decide) _ 0 [] (own_made D _ rfl (by omega)) ⟨b9, o9, none⟩ k c (tv (L.take k)) (by rw [tv_len, List.length_take]; omega) (at_add ((at_take4 HL.out k (by omega)).alloc _)) (tv_one _) (by unfold maxLen; omega) (by omega) (by simp; omega)
      rw [Nat.zero_add, List.nil_append] at hown1
      have RA2 : Ra w w1 gw most last dd kk nn (some ⟨b9, o9, none⟩) n c := RA1.out.apnd (.cells #[] 63) hgrow1 (fun q hq => by injection hq with hq; simp only at hq; omega)
      have HL1 : At w1 (some ⟨b9, o9, none⟩) (tv L) := HA.out.below (by rw [← HG.out]; exact RA2.b)
      have hs1 := RA2.s
      obtain ⟨A1, c1', rfl, _, _⟩ := own_slice hown1
      obtain ⟨O, hO⟩ : ∃ O : Obj, O = .cells #[.int .i64 (last + 1), .int .i64 dd, .int .i64 kk, .int .i64 nn] 63 := ⟨_, rfl⟩
      obtain ⟨v2, w2, hrun2, hown2, hgrow2, _, _⟩ := run_append_own_at (P := Try.prog) (w1.alloc (.cells #[.int .i64 (last + 1), .int .i64 dd, .int .i64 kk, .int .i64 nn] 63)) (gw + 4) 26 26 63 i0 _ 4 32 Try.underlying26 hi hz0 hz1 hz2 rfl (by decide) _ _ _ (own_below hown1 (below_alloc w1 (.cells #[.int .i64 (last + 1), .int .i64 dd, .int .i64 kk, .int .i64 nn] 63))) ⟨w1.heap.size, 0, none⟩ 1 1 [.int .i64 (last + 1), .int .i64 dd, .int .i64 kk, .int .i64 nn] rfl (cells_new' _ _ _ _ rfl _ rfl) (by intro u hu; simp at hu; rcases hu with rfl | rfl | rfl | rfl <;> rfl) (by unfold maxLen; omega) (by omega) (by simp; omega)
      have hfr1 := own_from hown1
      have RA3 : Ra w w2 gw most last dd kk nn (some ⟨b9, o9, none⟩) n c := RA2.apnd (.cells #[.int .i64 (last + 1), .int .i64 dd, .int .i64 kk, .int .i64 nn] 63) hgrow2 (fun q hq => hfr1 q hq)
      have HL2 : At w2 (some ⟨b9, o9, none⟩) (tv L) := HA.out.below (by rw [← HG.out]; exact RA3.b)
      have hs2 := RA3.s
      obtain ⟨A2, c2', rfl, _, _⟩ := own_slice hown2
      have hat3 := at_cut4 HL2 k (by omega : L.length ≤ c)
      obtain ⟨a3, ha3⟩ : ∃ a3 : Addr, (if c = k then some (⟨b9, o9, none⟩ : Addr) else some ⟨b9, o9 + k * 4, none⟩) = some a3 := by split <;> exact ⟨_, rfl⟩
      rw [ha3] at hat3
      obtain ⟨v3, w3, hrun3, hown3, hgrow3, _, _⟩ := run_append_own_at (P := Try.prog) w2 (gw + 4) 26 26 63 i0 _ 4 32 Try.underlying26 hi hz0 hz1 hz2 rfl (by decide) _ _ _ hown2 a3 (n - k) (c - k) (tv (L.drop k)) (by rw [tv_len, List.length_drop]; omega) (at_addA hat3) (tv_one _) (by unfold maxLen; omega) (by omega) (by omega)
      rw [← ha3] at hrun3
      have hfr2 := own_from hown2
      have RA4 : Ra w w3 gw most last dd kk nn (some ⟨b9, o9, none⟩) n c := RA3.grow hgrow3 (fun q hq => hfr2 q hq)
      have hown4 : w3.ownsRow (gw + 4) 63 4 v3 (n + 1) (tv (L.take k ++ [⟨last + 1, dd, kk, nn⟩] ++ L.drop k)) := by
        rw [show k + 1 + (n - k) = n + 1 by omega] at hown3
        rw [tv_app, tv_app]
        exact hown3
      obtain ⟨A3, c3', rfl, h31, h32⟩ := own_slice hown4
      obtain ⟨g3, _, hv3, hg3, hg3l, _, _⟩ := own_head hown4 (by omega)
      injection hv3 with hA3 _ hcc3
      clear hcc3
      obtain ⟨Y, hY⟩ : ∃ Y, Y = w3.setCell ⟨gw, 2, none⟩ (.slice A3 (n + 1) c3') := ⟨_, rfl⟩
      have y0 : Blk Y gw 28 #[.int .i64 most, .int .i64 (last + 1), .slice A3 (n + 1) c3'] := by rw [hY]; exact RA4.x.set 2 _
      have y1 : Blk Y (gw + 1 + 1) 28 #[.int .i64 0, .int .i64 0, .slice none 0 0] := by rw [hY]; exact RA4.r.other _ _ _ (by omega)
      have y2 : Blk Y (gw + 1 + 1 + 1) 63 #[.int .i64 (last + 1), .int .i64 dd, .int .i64 kk, .int .i64 nn] := by rw [hY]; exact RA4.t.other _ _ _ (by omega)
      obtain ⟨Z, hZ⟩ : ∃ Z, Z = (set3 Y (gw + 1 + 1) (.int .i64 most) (.int .i64 (last + 1)) (.slice A3 (n + 1) c3')).drew := ⟨_, rfl⟩
      have HR1 : Hid (Blk Z (gw + 1 + 1) 28 #[.int .i64 most, .int .i64 (last + 1), .slice A3 (n + 1) c3']) := by rw [hZ]; exact (blk_set3 y1 _ _ _).drew
      have HE : Hid (Below w.heap.size w Z) := by
        rw [hZ, hY]
        exact Below_drew (beside_none (beside_set3 ((Beside.ofBelow (by rw [← HG.out]; exact RA4.b) : Beside (fun _ => False) w w3).set (.inr (by have := HG.out; omega)) 2 _) (.inr (by have := HG.out; omega)) _ _ _))
      have HAT : Hid (At Z A3 (tv (L.take k ++ [⟨last + 1, dd, kk, nn⟩] ++ L.drop k))) := by
        have h9 : Beside (fun x => x = gw ∨ x = gw + 1 + 1) w3 Z := by
          rw [hZ, hY]
          exact (beside_set3 ((Beside.refl _ w3).set (.inl (.inl rfl)) 2 _) (.inl (.inr rfl)) _ _ _).drewN 1
        refine h9.at (At.own hown4) ?_
        intro b o p e h8
        rw [hA3] at e
        injection e with e
        injection e with e
        omega
      have HNO : Hid (A3 ≠ none) := by rw [hA3]; intro e; cases e
      have HNEW : Hid (∀ b' o p, A3 = some ⟨b', o, p⟩ → w.heap.size ≤ b' ∧ p = none) := fun b' o p e => by have h9 := own_new hown4 b' o p e; have h8 := HG.out; exact ⟨by omega, h9.2.1⟩
      have x2D : D.cell? ⟨gw, 2, none⟩ = some (.slice (some ⟨b9, o9, none⟩) n c) := RA1.out.x.cell 2 rfl
      have m0 : w1.cell? ⟨gw + 1 + 1 + 1, 0, none⟩ = some (.int .i64 (last + 1)) := RA2.t.cell 0 rfl
      have m1 : w1.cell? ⟨gw + 1 + 1 + 1, 1, none⟩ = some (.int .i64 dd) := RA2.t.cell 1 rfl
      have m2 : w1.cell? ⟨gw + 1 + 1 + 1, 2, none⟩ = some (.int .i64 kk) := RA2.t.cell 2 rfl
      have m3 : w1.cell? ⟨gw + 1 + 1 + 1, 3, none⟩ = some (.int .i64 nn) := RA2.t.cell 3 rfl
      have x22 : w2.cell? ⟨gw, 2, none⟩ = some (.slice (some ⟨b9, o9, none⟩) n c) := RA3.x.cell 2 rfl
      have x23 : w3.cell? ⟨gw, 2, none⟩ = some (.slice (some ⟨b9, o9, none⟩) n c) := RA4.x.cell 2 rfl
      have x2D2 : (D.alloc (.cells #[] 63)).cell? ⟨gw, 2, none⟩ = some (.slice (some ⟨b9, o9, none⟩) n c) := (RA1.out.x.alloc _).cell 2 rfl
      have x23f : w3.frozen? ⟨gw, 2, none⟩ = false := RA4.x.frozen 2
      have u0 : Y.cell? ⟨gw, 0, none⟩ = some (.int .i64 most) := y0.cell 0 rfl
      have u1 : Y.cell? ⟨gw, 1, none⟩ = some (.int .i64 (last + 1)) := y0.cell 1 rfl
      have u2 : Y.cell? ⟨gw, 2, none⟩ = some (.slice A3 (n + 1) c3') := y0.cell 2 rfl
      have s0 : Y.cell? ⟨gw + 1 + 1, 0, none⟩ = some (.int .i64 0) := y1.cell 0 rfl
      have sf0 : Y.frozen? ⟨gw + 1 + 1, 0, none⟩ = false := y1.frozen 0
      have s1 : Y.cell? ⟨gw + 1 + 1, 1, none⟩ = some (.int .i64 0) := y1.cell 1 rfl
      have sf1 : Y.frozen? ⟨gw + 1 + 1, 1, none⟩ = false := y1.frozen 1
      have s2 : Y.cell? ⟨gw + 1 + 1, 2, none⟩ = some (.slice none 0 0) := y1.cell 2 rfl
      have sf2 : Y.frozen? ⟨gw + 1 + 1, 2, none⟩ = false := y1.frozen 2
      have t0 : Y.cell? ⟨gw + 1 + 1 + 1, 0, none⟩ = some (.int .i64 (last + 1)) := y2.cell 0 rfl
      have u0d : Y.drew.cell? ⟨gw, 0, none⟩ = some (.int .i64 most) := y0.cell 0 rfl
      have u1d : Y.drew.cell? ⟨gw, 1, none⟩ = some (.int .i64 (last + 1)) := y0.cell 1 rfl
      have u2d : Y.drew.cell? ⟨gw, 2, none⟩ = some (.slice A3 (n + 1) c3') := y0.cell 2 rfl
      have s0d : Y.drew.cell? ⟨gw + 1 + 1, 0, none⟩ = some (.int .i64 0) := y1.cell 0 rfl
      have sf0d : Y.drew.frozen? ⟨gw + 1 + 1, 0, none⟩ = false := y1.frozen 0
      have s1d : Y.drew.cell? ⟨gw + 1 + 1, 1, none⟩ = some (.int .i64 0) := y1.cell 1 rfl
      have sf1d : Y.drew.frozen? ⟨gw + 1 + 1, 1, none⟩ = false := y1.frozen 1
      have s2d : Y.drew.cell? ⟨gw + 1 + 1, 2, none⟩ = some (.slice none 0 0) := y1.cell 2 rfl
      have sf2d : Y.drew.frozen? ⟨gw + 1 + 1, 2, none⟩ = false := y1.frozen 2
      have t0d : Y.drew.cell? ⟨gw + 1 + 1 + 1, 0, none⟩ = some (.int .i64 (last + 1)) := y2.cell 0 rfl
      unfold set3 at hZ
      have HY := Lib.hid hY
      have HZ := Lib.hid hZ
      have z1 : (k : Int) ≤ (n : Int) := by omega
      have z0 : (0 : Int) ≤ (k : Int) := by omega
      have z2 : (k : Int) ≤ (c : Int) := by omega
      have z3 : (n : Int) ≤ (c : Int) := by omega
      clear hY hZ RA1 RA2 RA3 RA4 RA HL HL1 HL2 hown1 hown2 hown3 hown4 hgrow1 hgrow2 hgrow3 hfr1 hfr2 hat3 ha3 hO O y0 y1 y2 hL hsD hs1 hs2 hg3 hg3l hA3
      go_upto_region 11 with fail
      all_goals
        rw [← HY.out]
        change Code.wp _ _ _ _ Y
        go_region
        go_wp2
        all_goals
          rw [← HZ.out]
          try simp only [Exit.inBlock, Exit.then]
          refine bodyPost_ret (results_mid_tmp2 rfl _ _ (gw + 1 + 1) 0 [.int .i64 most, .int .i64 (last + 1), .slice A3 (n + 1) c3'] _ rfl (blk_range HR1.out) Try.underlying28 rfl (by kernel_rfl)) rfl ?_
          exact ⟨A3, c3', rfl, k, hk, HLE.out, HST.out, (by simpa using HAT.out), h31, h32, HNO.out, HNEW.out, HE.out⟩
set_option maxHeartbeats 8000000 in
set_option maxRecDepth 100000 in
theorem radd_nil (most last dl kk nn dd : Int) (w : World) (hdd : clp dl 0 1099511627776 = dd) (hl0 : 0 ≤ last) (hl1 : last ≤ 1000000000) (hf : (0 : Int) ≠ most) :
    Calls Try.prog 18 #[rv16 most last none 0 0, .int .i64 dl, .agg #[.int .i64 kk, .int .i64 nn]] w fun e w' => ∃ A' c', e = .returned (.tuple #[rv16 most (last + 1) A' 1 c', .int .i64 (last + 1), .int .i64 0]) ∧ At w' A' (tv [⟨last + 1, dd, kk, nn⟩]) ∧ 1 ≤ c' ∧ c' ≤ maxLen ∧ A' ≠ none ∧ (∀ b' o p, A' = some ⟨b', o, p⟩ → w.heap.size ≤ b' ∧ p = none) ∧ Below w.heap.size w w' := by
  have mixed : Try.prog.follows .mixedOrders = true := by kernel_rfl
  unfold rv16
  obtain ⟨i0, hi, hz0, hz1, hz2⟩ := info_parts infoRm
  obtain ⟨hb, hs, h0, h1, h2⟩ := rw0_facts w most last kk nn none 0 0
  obtain ⟨V, hV⟩ : ∃ V, V = rw0 w most last kk nn none 0 0 := ⟨_, rfl⟩
  rw [← hV] at hb hs h0 h1 h2
  have a0 : V.cell? ⟨w.heap.size, 0, none⟩ = some (.int .i64 most) := h0.cell 0 rfl
  have a1 : V.cell? ⟨w.heap.size, 1, none⟩ = some (.int .i64 last) := h0.cell 1 rfl
  have a1f : V.frozen? ⟨w.heap.size, 1, none⟩ = false := h0.frozen 1
  have a2 : V.cell? ⟨w.heap.size, 2, none⟩ = some (.slice none 0 0) := h0.cell 2 rfl
  obtain ⟨T, hT⟩ : ∃ T, T = V.setCell ⟨w.heap.size, 1, none⟩ (.int .i64 (last + 1)) := ⟨_, rfl⟩
  have t0 : Blk T w.heap.size 28 #[.int .i64 most, .int .i64 (last + 1), .slice none 0 0] := by rw [hT]; exact h0.set 1 _
  have t1 : Blk T (w.heap.size + 1) 33 #[.int .i64 kk, .int .i64 nn] := by rw [hT]; exact h1.other _ _ _ (by omega)
  have t2 : Blk T (w.heap.size + 1 + 1) 28 #[.int .i64 0, .int .i64 0, .slice none 0 0] := by rw [hT]; exact h2.other _ _ _ (by omega)
  have hsT : T.heap.size = w.heap.size + 1 + 1 + 1 := by rw [hT]; simpa using hs
  have hbT : Below w.heap.size w T := by rw [hT]; exact beside_none ((Beside.ofBelow hb : Beside (fun _ => False) w V).set (.inr (Nat.le_refl _)) 1 _)
  have p1 : T.cell? ⟨w.heap.size, 1, none⟩ = some (.int .i64 (last + 1)) := t0.cell 1 rfl
  have j0 : T.cell? ⟨w.heap.size + 1, 0, none⟩ = some (.int .i64 kk) := t1.cell 0 rfl
  have j1 : T.cell? ⟨w.heap.size + 1, 1, none⟩ = some (.int .i64 nn) := t1.cell 1 rfl
  obtain ⟨U, hU⟩ : ∃ U, U = T.alloc (.cells #[.int .i64 (last + 1), .int .i64 dd, .int .i64 kk, .int .i64 nn] 63) := ⟨_, rfl⟩
  have RA : Hid (Ra w U w.heap.size most last dd kk nn none 0 0) := by
    have e3 : Blk U (w.heap.size + 1 + 1 + 1) 63 #[.int .i64 (last + 1), .int .i64 dd, .int .i64 kk, .int .i64 nn] := by rw [hU]; exact Blk.new' T _ _ _ hsT
    exact ⟨by rw [hU]; exact t0.alloc _, by rw [hU]; exact t2.alloc _, e3, by rw [hU]; exact hbT.alloc hbT.size _, e3.lt⟩
  have hwl : IntKind.i64.wrap (last + 1) = last + 1 := by rw [IntKind.wrap_i64]; omega
  unfold clp at hdd
  have HT := Lib.hid hT
  have HU := Lib.hid hU
  have HST := Lib.hid hsT
  unfold rw0 at hV
  have HV := Lib.hid hV
  have hfb : ((0 : Int) == most) = false := by simpa using hf
  obtain ⟨gw, hgw⟩ : ∃ gw, gw = w.heap.size := ⟨_, rfl⟩
  have HG := Lib.hid hgw
  clear hV hT hU hb hs h0 h1 h2 t0 t1 t2 hsT hbT
  go_enter Try.func18, Try.ntmps18
  go_upto_region 1 with fail
  rw [← HV.out]
  go_upto_region 4 with fail
  rw [← HT.out]
  go_upto_region 5 with fail
  rw [← HU.out]
  try rw [HST.out]
  rw [← hgw] at RA ⊢
  clear hgw a0 a1 a1f a2 p1 j0 j1 hfb hf hdd HV HT HU
  go_wp2_with fail
  go_loopw [10] (fun vk W => vk = .int .i64 0 ∧ Hid (Ra w W gw most last dd kk nn none 0 0)) (fun _ _ => 0)
  case atStart => exact ⟨rfl, RA⟩
  case round =>
    clear RA
    obtain ⟨rfl, RA⟩ := hrel
    have x2 : wr.cell? ⟨gw, 2, none⟩ = some (.slice none 0 0) := RA.out.x.cell 2 rfl
    have x2N : ∀ q, (wr.drewN q).cell? ⟨gw, 2, none⟩ = some (.slice none 0 0) := fun _ => x2
    go_wp2_with fail
    go_big_quiet (fail)
    have RA1 := Lib.hid (RA.out.drewN nq)
    generalize wr.drewN nq = D at *
    have hsD := RA1.out.s
    obtain ⟨w1, hw1⟩ : ∃ w1, w1 = D.alloc (.cells #[] 63) := ⟨_, rfl⟩
    have hown1 : w1.ownsRow (gw + 4) 63 4 (.slice (some ⟨D.heap.size, 0, none⟩) 0 0) 0 [] := by rw [hw1]; exact own_made D _ rfl (by omega)
    have hrun1 := run_append_owned_none (P := Try.prog) (w := w1) (gw + 4) 26 26 63 i0 4 Try.underlying26 hi _ 0 [] hown1
    rw [hw1] at hrun1
    have RA2 : Ra w w1 gw most last dd kk nn none 0 0 := by rw [hw1]; exact RA1.out.below (below_alloc _ _)
    have hs1 := RA2.s
    have HW1 := Lib.hid hw1
    obtain ⟨v2, w2, hrun2, hown2, hgrow2, _, _⟩ := run_append_own_at (P := Try.prog) (w1.alloc (.cells #[.int .i64 (last + 1), .int .i64 dd, .int .i64 kk, .int .i64 nn] 63)) (gw + 4) 26 26 63 i0 _ 4 32 Try.underlying26 hi hz0 hz1 hz2 rfl (by decide) _ _ _ (own_below hown1 (below_alloc w1 (.cells #[.int .i64 (last + 1), .int .i64 dd, .int .i64 kk, .int .i64 nn] 63))) ⟨w1.heap.size, 0, none⟩ 1 1 [.int .i64 (last + 1), .int .i64 dd, .int .i64 kk, .int .i64 nn] rfl (cells_new' _ _ _ _ rfl _ rfl) (by intro u hu; simp at hu; rcases hu with rfl | rfl | rfl | rfl <;> rfl) (by unfold maxLen; omega) (by omega) (by simp; omega)
    have hfr1 := own_from hown1
    have RA3 : Ra w w2 gw most last dd kk nn none 0 0 := RA2.apnd (.cells #[.int .i64 (last + 1), .int .i64 dd, .int .i64 kk, .int .i64 nn] 63) hgrow2 (fun q hq => hfr1 q hq)
    have hs2 := RA3.s
    have hrun3 := run_append_owned_none (P := Try.prog) (w := w2) (gw + 4) 26 26 63 i0 4 Try.underlying26 hi _ _ _ hown2
    have RA4 := RA3
    have hown4 : w2.ownsRow (gw + 4) 63 4 v2 1 (tv [⟨last + 1, dd, kk, nn⟩]) := hown2
    obtain ⟨A3, c3', rfl, h31, h32⟩ := own_slice hown4
    obtain ⟨g3, _, hv3, hg3, hg3l, _, _⟩ := own_head hown4 (by omega)
    injection hv3 with hA3 _ hcc3
    clear hcc3
    obtain ⟨Y, hY⟩ : ∃ Y, Y = w2.setCell ⟨gw, 2, none⟩ (.slice A3 1 c3') := ⟨_, rfl⟩
    have y0 : Blk Y gw 28 #[.int .i64 most, .int .i64 (last + 1), .slice A3 1 c3'] := by rw [hY]; exact RA4.x.set 2 _
    have y1 : Blk Y (gw + 1 + 1) 28 #[.int .i64 0, .int .i64 0, .slice none 0 0] := by rw [hY]; exact RA4.r.other _ _ _ (by omega)
    have y2 : Blk Y (gw + 1 + 1 + 1) 63 #[.int .i64 (last + 1), .int .i64 dd, .int .i64 kk, .int .i64 nn] := by rw [hY]; exact RA4.t.other _ _ _ (by omega)
    obtain ⟨Z, hZ⟩ : ∃ Z, Z = (set3 Y (gw + 1 + 1) (.int .i64 most) (.int .i64 (last + 1)) (.slice A3 1 c3')).drew := ⟨_, rfl⟩
    have HR1 : Hid (Blk Z (gw + 1 + 1) 28 #[.int .i64 most, .int .i64 (last + 1), .slice A3 1 c3']) := by rw [hZ]; exact (blk_set3 y1 _ _ _).drew
    have HE : Hid (Below w.heap.size w Z) := by
      rw [hZ, hY]
      exact Below_drew (beside_none (beside_set3 ((Beside.ofBelow (by rw [← HG.out]; exact RA4.b) : Beside (fun _ => False) w w2).set (.inr (by have := HG.out; omega)) 2 _) (.inr (by have := HG.out; omega)) _ _ _))
    have HAT : Hid (At Z A3 (tv ([⟨last + 1, dd, kk, nn⟩]))) := by
      have h9 : Beside (fun x => x = gw ∨ x = gw + 1 + 1) w2 Z := by
        rw [hZ, hY]
        exact (beside_set3 ((Beside.refl _ w2).set (.inl (.inl rfl)) 2 _) (.inl (.inr rfl)) _ _ _).drewN 1
      refine h9.at (At.own hown4) ?_
      intro b o p e h8
      rw [hA3] at e
      injection e with e
      injection e with e
      omega
    have HNO : Hid (A3 ≠ none) := by rw [hA3]; intro e; cases e
    have HNEW : Hid (∀ b' o p, A3 = some ⟨b', o, p⟩ → w.heap.size ≤ b' ∧ p = none) := fun b' o p e => by have h9 := own_new hown4 b' o p e; have h8 := HG.out; exact ⟨by omega, h9.2.1⟩
    have x2D : D.cell? ⟨gw, 2, none⟩ = some (.slice none 0 0) := RA1.out.x.cell 2 rfl
    have m0 : w1.cell? ⟨gw + 1 + 1 + 1, 0, none⟩ = some (.int .i64 (last + 1)) := RA2.t.cell 0 rfl
    have m1 : w1.cell? ⟨gw + 1 + 1 + 1, 1, none⟩ = some (.int .i64 dd) := RA2.t.cell 1 rfl
    have m2 : w1.cell? ⟨gw + 1 + 1 + 1, 2, none⟩ = some (.int .i64 kk) := RA2.t.cell 2 rfl
    have m3 : w1.cell? ⟨gw + 1 + 1 + 1, 3, none⟩ = some (.int .i64 nn) := RA2.t.cell 3 rfl
    have x22 : w2.cell? ⟨gw, 2, none⟩ = some (.slice none 0 0) := RA3.x.cell 2 rfl
    have x23 : w2.cell? ⟨gw, 2, none⟩ = some (.slice none 0 0) := RA4.x.cell 2 rfl
    have x2D2 : (D.alloc (.cells #[] 63)).cell? ⟨gw, 2, none⟩ = some (.slice none 0 0) := (RA1.out.x.alloc _).cell 2 rfl
    have x23f : w2.frozen? ⟨gw, 2, none⟩ = false := RA4.x.frozen 2
    have u0 : Y.cell? ⟨gw, 0, none⟩ = some (.int .i64 most) := y0.cell 0 rfl
    have u1 : Y.cell? ⟨gw, 1, none⟩ = some (.int .i64 (last + 1)) := y0.cell 1 rfl
    have u2 : Y.cell? ⟨gw, 2, none⟩ = some (.slice A3 1 c3') := y0.cell 2 rfl
    have s0 : Y.cell? ⟨gw + 1 + 1, 0, none⟩ = some (.int .i64 0) := y1.cell 0 rfl
    have sf0 : Y.frozen? ⟨gw + 1 + 1, 0, none⟩ = false := y1.frozen 0
    have s1 : Y.cell? ⟨gw + 1 + 1, 1, none⟩ = some (.int .i64 0) := y1.cell 1 rfl
    have sf1 : Y.frozen? ⟨gw + 1 + 1, 1, none⟩ = false := y1.frozen 1
    have s2 : Y.cell? ⟨gw + 1 + 1, 2, none⟩ = some (.slice none 0 0) := y1.cell 2 rfl
    have sf2 : Y.frozen? ⟨gw + 1 + 1, 2, none⟩ = false := y1.frozen 2
    have t0 : Y.cell? ⟨gw + 1 + 1 + 1, 0, none⟩ = some (.int .i64 (last + 1)) := y2.cell 0 rfl
    have u0d : Y.drew.cell? ⟨gw, 0, none⟩ = some (.int .i64 most) := y0.cell 0 rfl
    have u1d : Y.drew.cell? ⟨gw, 1, none⟩ = some (.int .i64 (last + 1)) := y0.cell 1 rfl
    have u2d : Y.drew.cell? ⟨gw, 2, none⟩ = some (.slice A3 1 c3') := y0.cell 2 rfl
    have s0d : Y.drew.cell? ⟨gw + 1 + 1, 0, none⟩ = some (.int .i64 0) := y1.cell 0 rfl
    have sf0d : Y.drew.frozen? ⟨gw + 1 + 1, 0, none⟩ = false := y1.frozen 0
    have s1d : Y.drew.cell? ⟨gw + 1 + 1, 1, none⟩ = some (.int .i64 0) := y1.cell 1 rfl
    have sf1d : Y.drew.frozen? ⟨gw + 1 + 1, 1, none⟩ = false := y1.frozen 1
    have s2d : Y.drew.cell? ⟨gw + 1 + 1, 2, none⟩ = some (.slice none 0 0) := y1.cell 2 rfl
    have sf2d : Y.drew.frozen? ⟨gw + 1 + 1, 2, none⟩ = false := y1.frozen 2
    have t0d : Y.drew.cell? ⟨gw + 1 + 1 + 1, 0, none⟩ = some (.int .i64 (last + 1)) := y2.cell 0 rfl
    unfold set3 at hZ
    have HY := Lib.hid hY
    have HZ := Lib.hid hZ
    clear hY hZ RA1 RA2 RA3 RA4 RA hown1 hown2 hown4 hgrow2 hfr1 hw1 y0 y1 y2 hsD hs1 hs2 hg3 hg3l hA3
    go_upto_region 9 with fail
    rw [← HW1.out]
    go_upto_region 11 with fail
    all_goals
      rw [← HY.out]
      change Code.wp _ _ _ _ Y
      go_region
      go_wp2
      all_goals
        rw [← HZ.out]
        try simp only [Exit.inBlock, Exit.then]
        refine bodyPost_ret (results_mid_tmp2 rfl _ _ (gw + 1 + 1) 0 [.int .i64 most, .int .i64 (last + 1), .slice A3 1 c3'] _ rfl (blk_range HR1.out) Try.underlying28 rfl (by kernel_rfl)) rfl ?_
        exact ⟨A3, c3', rfl, HAT.out, h31, h32, HNO.out, HNEW.out, HE.out⟩
end Go.Proofs.Ytdbgmogllncffaa
