/- Contract of the document's Ask of jobs, where there is room. -/
import Derived.Test.YtpdlholoeaphgaaFrR2
namespace Go.Proofs.Ytpdlholoeaphgaa
open Go.RowKit
attribute [-go_sem] Builtin.append_
namespace Fr
/-- what the document's Ask keeps. -/
structure Rk (w W : World) (gw : Nat) (most last kk nn : Int) (A : Option Addr) (n c : Nat) : Prop where
  x : Blk W gw 28 #[.int .i64 most, .int .i64 last, .slice A n c]
  j : Blk W (gw + 1) 33 #[.int .i64 kk, .int .i64 nn]
  r : Blk W (gw + 1 + 1) 28 #[.int .i64 0, .int .i64 0, .slice none 0 0]
  b : Below gw w W
  s : gw + 1 + 1 < W.heap.size
theorem Rk.below {w W W' : World} {gw : Nat} {most last kk nn : Int} {A : Option Addr} {n c : Nat} (h : Rk w W gw most last kk nn A n c) (hb : Below W.heap.size W W') : Rk w W' gw most last kk nn A n c :=
  ⟨h.x.below hb, h.j.below hb, h.r.below hb, h.b.trans (hb.mono (by have := h.s; omega)), Nat.lt_of_lt_of_le h.s hb.size⟩
theorem Rk.alloc {w W : World} {gw : Nat} {most last kk nn : Int} {A : Option Addr} {n c : Nat} (h : Rk w W gw most last kk nn A n c) (o : Obj) : Rk w (W.alloc o) gw most last kk nn A n c := h.below (below_alloc W o)
theorem Rk.drewN {w W : World} {gw : Nat} {most last kk nn : Int} {A : Option Addr} {n c : Nat} (h : Rk w W gw most last kk nn A n c) (q : Nat) : Rk w (W.drewN q) gw most last kk nn A n c :=
  ⟨h.x, h.j, h.r, ⟨h.b.os, h.b.tape, h.b.output, h.b.size, h.b.block⟩, h.s⟩
theorem Rk.drew {w W : World} {gw : Nat} {most last kk nn : Int} {A : Option Addr} {n c : Nat} (h : Rk w W gw most last kk nn A n c) : Rk w W.drew gw most last kk nn A n c := h.drewN 1
theorem Rk.grow {w W W' : World} {gw : Nat} {most last kk nn : Int} {A : Option Addr} {n c : Nat} {row : Option Nat} (h : Rk w W gw most last kk nn A n c) (hg : W.grownBy W' row) (hr : ∀ q, row = some q → gw + 3 ≤ q) : Rk w W' gw most last kk nn A n c := by
  have hne : ∀ q, q < gw + 3 → some q ≠ row := fun q hq e => by have := hr q e.symm; omega
  exact ⟨h.x.grown hg (hne _ (by omega)), h.j.grown hg (hne _ (by omega)), h.r.grown hg (hne _ (by omega)), h.b.grown hg (by have := h.s; omega) (fun q hq => by have := hr q hq; omega), Nat.lt_of_lt_of_le h.s hg.size⟩
theorem Rk.cells {w W : World} {gw : Nat} {most last kk nn : Int} {A : Option Addr} {n c : Nat} (h : Rk w W gw most last kk nn A n c) :
    W.cell? ⟨gw, 1, none⟩ = some (.int .i64 last) ∧ W.cell? ⟨gw, 2, none⟩ = some (.slice A n c) ∧ W.frozen? ⟨gw, 2, none⟩ = false ∧ W.cell? ⟨gw + 1, 0, none⟩ = some (.int .i64 kk) ∧ W.cell? ⟨gw + 1, 1, none⟩ = some (.int .i64 nn) :=
  ⟨h.x.cell 1 rfl, h.x.cell 2 rfl, h.x.frozen 2, h.j.cell 0 rfl, h.j.cell 1 rfl⟩
theorem own_head {w : World} {base : Nat} {e : TypeId} {size n : Nat} {v : Value} {xs : List Value} (h : w.ownsRow base e size v n xs) (hn : 0 < n) : ∃ g c, v = .slice (some ⟨g, 0, none⟩) n c ∧ base ≤ g ∧ g < w.heap.size ∧ n ≤ c ∧ c ≤ maxLen := by
  rcases h.2 with ⟨_, h0⟩ | ⟨g, c, cur, hv, h1, hh, h3, h4, _⟩
  · omega
  · exact ⟨g, c, hv, h1, Blk.lt hh, h3, h4⟩
/-- behind the store of the longer row. -/
def AskEnd (w W : World) (gw : Nat) (most last kk nn : Int) (A : Option Addr) (n c : Nat) (L : List Tm) : Prop :=
  Rk w W gw most last kk nn A n c ∧ At W A (tv L) ∧ (∃ b9, A = some ⟨b9, 0, none⟩ ∧ gw + 3 ≤ b9 ∧ b9 < W.heap.size) ∧ n ≤ c ∧ c ≤ maxLen
theorem ask_end {w W : World} {gw : Nat} {most last kk nn : Int} {A : Option Addr} {n c : Nat} {A9 : Option Addr} {m c9 : Nat} {L : List Tm} (h : Rk w W gw most last kk nn A n c) (ho : W.ownsRow (gw + 3) 85 4 (.slice A9 m c9) m (tv L)) (hm : 0 < m) : AskEnd w (W.setCell ⟨gw, 2, none⟩ (.slice A9 m c9)) gw most last kk nn A9 m c9 L := by
  obtain ⟨g, c', hv, h1, h2, h3, h4⟩ := own_head ho hm
  injection hv with hA _ hc
  subst hA hc
  refine ⟨⟨h.x.set 2 _, h.j.other _ _ _ (by omega), h.r.other _ _ _ (by omega), h.b.setCell (p := ⟨gw, 2, none⟩) (Nat.le_refl _) _, by simpa using h.s⟩, ?_, ⟨g, rfl, h1, by simpa using h2⟩, h3, h4⟩
  exact At.own (((Beside.refl (fun x => x = gw) W).set (.inl rfl) 2 _).keepsOwn ho (fun q hq e => by injection hq with hq; simp only at hq; omega))
set_option maxHeartbeats 16000000 in
set_option maxRecDepth 100000 in
theorem rask_ok (most last kk nn : Int) (A : Option Addr) (n c : Nat) (L : List Tm) (w : World) (hf : (n : Int) ≠ most) (hn : n = L.length) (hb6 : n ≤ 65536) (ha : At w A (tv L)) (hA0 : A = none → n = 0 ∧ c = 0) (hl0 : 0 ≤ last) (hl1 : last ≤ 1000000000) :
    Calls Try.prog 31 #[rv16 most last A n c, .agg #[.int .i64 kk, .int .i64 nn]] w fun e w' => ∃ A' c', e = .returned (.tuple #[rv16 most (last + 1) A' (n + 1) c', .int .i64 (last + 1), .int .i64 0]) ∧ At w' A' (tv (L ++ [⟨last + 1, 2, kk, nn⟩])) ∧ n + 1 ≤ c' ∧ c' ≤ maxLen ∧ A' ≠ none ∧ (∀ b' o p, A' = some ⟨b', o, p⟩ → w.heap.size ≤ b' ∧ p = none ∧ b' < w'.heap.size) ∧ Below w.heap.size w w' := by
  unfold rv16
  have mixed : Try.prog.follows .mixedOrders = true := by kernel_rfl
  obtain ⟨i0, hi, hz0, hz1, hz2⟩ := info_parts infoRm
  obtain ⟨hb, hs, h0, h1, h2⟩ := rw0_facts w most last kk nn A n c
  obtain ⟨V, hV⟩ : ∃ V, V = rw0 w most last kk nn A n c := ⟨_, rfl⟩
  rw [← hV] at hb hs h0 h1 h2
  obtain ⟨gw, hgw⟩ : ∃ gw, gw = w.heap.size := ⟨_, rfl⟩
  rw [← hgw] at h0 h1 h2 hs
  have hfb : ((n : Int) == most) = false := by simpa using hf
  have a0 : V.cell? ⟨gw, 0, none⟩ = some (.int .i64 most) := h0.cell 0 rfl
  have a1 : V.cell? ⟨gw, 1, none⟩ = some (.int .i64 last) := h0.cell 1 rfl
  have a1f : V.frozen? ⟨gw, 1, none⟩ = false := h0.frozen 1
  have a2 : V.cell? ⟨gw, 2, none⟩ = some (.slice A n c) := h0.cell 2 rfl
  have hwl : IntKind.i64.wrap (last + 1) = last + 1 := by rw [IntKind.wrap_i64]; omega
  obtain ⟨U, hU⟩ : ∃ U, U = V.setCell ⟨gw, 1, none⟩ (.int .i64 (last + 1)) := ⟨_, rfl⟩
  have hR : Rk w U gw most (last + 1) kk nn A n c := by
    rw [hU]
    exact ⟨h0.set 1 _, h1.other _ _ _ (by omega), h2.other _ _ _ (by omega), (hgw ▸ hb : Below gw w V).setCell (p := ⟨gw, 1, none⟩) (Nat.le_refl _) _, by simp; omega⟩
  have hsU : U.heap.size = gw + 3 := by rw [hU]; simpa using hs
  have HN := Lib.hid hn
  have HA := Lib.hid (ha.below (hgw ▸ hR.b : Below w.heap.size w U))
  have HA0 := Lib.hid hA0
  have HG := Lib.hid hgw
  have HR := Lib.hid hR
  unfold rw0 at hV
  have HV := Lib.hid hV
  have HU := Lib.hid hU
  obtain ⟨u1, u2, u2f, u3, u4⟩ := hR.cells
  clear hn ha hA0 hV hU hR hb h0 h1 h2 hf hs
  go_enter Try.func31, Try.ntmps31
  go_upto_region 1 with fail
  rw [← HV.out, ← hgw]
  clear hgw
  go_upto_region 4 with fail
  rw [← HU.out]
  clear a0 a1 a1f a2 hfb HV HU hwl
  have hl : (tv L).length = n * 4 := by rw [tv_len, ← HN.out]
  have HL := Lib.hid hl
  clear hl
  clear V
  go_cut [28] (fun p wx => p = .pointer (some ⟨gw, 2, none⟩) ∧ ∃ A9 c9, Hid (AskEnd w wx gw most (last + 1) kk nn A9 (n + 1) c9 (L ++ [⟨last + 1, 2, kk, nn⟩])))
  case first =>
    go_region_law (first
      | (refine step_append_at (by rfl) (.tmp 18) (.tmp 20) 26 (by rfl) (gw + 3) 85 i0 _ 4 32 Try.underlying26 hi hz0 hz1 hz2 rfl (by decide) (.slice (some ⟨_, 0, none⟩) 0 0) 0 [] (by rfl) ?_ A n c (tv L) (by rfl) HA0.out HL.out ?_ (tv_one _) ?_ ?_ ?_ ?_; (first | exact own_heap (own_made U _ hsU (by omega)) rfl | exact own_heap ((own_made U _ hsU (by omega)).alloc _) rfl | exact own_heap (own_made (U.alloc (.cells #[.int .i64 (last + 1), .int .i64 2, .int .i64 kk, .int .i64 nn] 85)) _ (by simp; omega) (by omega)) rfl); (first | exact (HA.out.alloc _).drewN 1 | exact ((HA.out.alloc _).alloc _).drewN 1 | exact (HA.out.alloc _) | exact ((HA.out.alloc _).alloc _)); (unfold maxLen; omega); omega; (simp <;> omega); intro v8 w8 hown8 hgrow8; rw [Nat.zero_add, List.nil_append] at hown8; have R8 : Rk w w8 gw most (last + 1) kk nn A n c := (by first | exact (HR.out.alloc _).drew.grow hgrow8 (fun q hq => by simp only [Value.ownBlock, Option.some.injEq] at hq; omega) | exact ((HR.out.alloc _).alloc _).drew.grow hgrow8 (fun q hq => by simp only [Value.ownBlock, Option.some.injEq] at hq; omega)); obtain ⟨u81, u82, u82f, u83, u84⟩ := R8.cells)
      | (refine step_append_at (by rfl) (.tmp 21) (.tmp 26) 26 (by rfl) (gw + 3) 85 i0 _ 4 32 Try.underlying26 hi hz0 hz1 hz2 rfl (by decide) v8 n (tv L) (by rfl) ?_ (some ⟨_, 0, none⟩) 1 1 [.int .i64 (last + 1), .int .i64 2, .int .i64 kk, .int .i64 nn] (by rfl) (fun h => nomatch h) rfl ?_ (tc_one ⟨last + 1, 2, kk, nn⟩) ?_ ?_ ?_ ?_; (first | exact hown8 | exact hown8.alloc _ | exact own_heap hown8 rfl | exact own_heap (hown8.alloc _) rfl); (first | exact at_new _ _ _ _ rfl _ rfl | (refine at_new_grown hgrow8 (U.alloc (.cells #[] 85)).heap #[.int .i64 (last + 1), .int .i64 2, .int .i64 kk, .int .i64 nn] 85 (gw + 3 + 1) [.int .i64 (last + 1), .int .i64 2, .int .i64 kk, .int .i64 nn] rfl ?_ rfl ?_; (first | exact hsU | (simp; omega)); (simp only [Value.ownBlock]; intro e; injection e; omega)) | (refine at_new_alloc_grown hgrow8 U.heap #[.int .i64 (last + 1), .int .i64 2, .int .i64 kk, .int .i64 nn] 85 (.cells #[] 85) (gw + 3) [.int .i64 (last + 1), .int .i64 2, .int .i64 kk, .int .i64 nn] rfl ?_ rfl ?_; (first | exact hsU | (simp; omega)); (simp only [Value.ownBlock]; intro e; injection e; omega))); (unfold maxLen; omega); omega; (have := R8.s; simp <;> omega); intro v9 w9 hown9 hgrow9; have R9 : Rk w w9 gw most (last + 1) kk nn A n c := (by have h5 := own_from hown8; first | exact (R8.alloc _).grow hgrow9 (fun q hq => h5 q hq) | exact R8.grow hgrow9 (fun q hq => h5 q hq)); obtain ⟨u91, u92, u92f, u93, u94⟩ := R9.cells; obtain ⟨A9, c9, rfl, hc9, hm9, hat9⟩ := at_of_own' hown9))
    all_goals (have HEND := ask_end (L := L ++ [⟨last + 1, 2, kk, nn⟩]) R9 (by rw [tv_app]; exact hown9) (Nat.succ_pos n); have HEND := Lib.hid HEND; go_wp2_with fail; go_meet; exact ⟨rfl, _, _, HEND⟩)
  case rest =>
    obtain ⟨rfl, A9, c9, hend⟩ := hcut
    rename World => wx
    obtain ⟨hRx, hAx, ⟨b9, rfl, hb9, hb9l⟩, hc9, hm9⟩ := hend.out
    have x0 : wx.cell? ⟨gw, 0, none⟩ = some (.int .i64 most) := hRx.x.cell 0 rfl
    have x1 : wx.cell? ⟨gw, 1, none⟩ = some (.int .i64 (last + 1)) := hRx.x.cell 1 rfl
    have x2 : wx.cell? ⟨gw, 2, none⟩ = some (.slice (some ⟨b9, 0, none⟩) (n + 1) c9) := hRx.x.cell 2 rfl
    have y0 : wx.cell? ⟨gw + 1 + 1, 0, none⟩ = some (.int .i64 0) := hRx.r.cell 0 rfl
    have y1 : wx.cell? ⟨gw + 1 + 1, 1, none⟩ = some (.int .i64 0) := hRx.r.cell 1 rfl
    have y2 : wx.cell? ⟨gw + 1 + 1, 2, none⟩ = some (.slice none 0 0) := hRx.r.cell 2 rfl
    have z0 : wx.frozen? ⟨gw + 1 + 1, 0, none⟩ = false := hRx.r.frozen 0
    have z1 : wx.frozen? ⟨gw + 1 + 1, 1, none⟩ = false := hRx.r.frozen 1
    have z2 : wx.frozen? ⟨gw + 1 + 1, 2, none⟩ = false := hRx.r.frozen 2
    obtain ⟨Z, hZ⟩ : ∃ Z, Z = (set3 wx (gw + 1 + 1) (.int .i64 most) (.int .i64 (last + 1)) (.slice (some ⟨b9, 0, none⟩) (n + 1) c9)).drew := ⟨_, rfl⟩
    have HR1 : Hid (Blk Z (gw + 1 + 1) 28 #[.int .i64 most, .int .i64 (last + 1), .slice (some ⟨b9, 0, none⟩) (n + 1) c9]) := by rw [hZ]; exact (blk_set3 hRx.r _ _ _).drew
    have HE : Hid (Below w.heap.size w Z ∧ At Z (some ⟨b9, 0, none⟩) (tv (L ++ [⟨last + 1, 2, kk, nn⟩])) ∧ b9 < Z.heap.size) := by
      have hg := HG.out
      have hbs : Beside (fun x => x = gw + 1 + 1) wx Z := by rw [hZ]; exact (beside_set3 (Beside.refl (fun x => x = gw + 1 + 1) wx) (.inl rfl) _ _ _).drewN 1
      refine ⟨?_, hbs.at hAx (fun b o p e h8 => by injection e with e; injection e with e _ _; omega), Nat.lt_of_lt_of_le hb9l hbs.size⟩
      rw [hZ]
      exact Below_drew (beside_none (beside_set3 (Beside.ofBelow (hg ▸ hRx.b : Below w.heap.size w wx)) (.inr (by omega)) _ _ _))
    have HB9 := Lib.hid hb9
    have HC9 := Lib.hid hc9
    have HM9 := Lib.hid hm9
    unfold set3 at hZ
    have HZ := Lib.hid hZ
    clear hZ hRx hAx hend hb9 hb9l hc9 hm9 u1 u2 u2f u3 u4 hsU
    go_upto_region 5 with fail
    go_region
    go_wp2
    rw [← HZ.out]
    try simp only [Exit.inBlock, Exit.then]
    refine bodyPost_ret (results_mid_tmp2 rfl _ _ (gw + 1 + 1) 0 [.int .i64 most, .int .i64 (last + 1), .slice (some ⟨b9, 0, none⟩) (n + 1) c9] _ rfl (blk_range HR1.out) Try.underlying28 rfl (by kernel_rfl)) rfl ?_
    refine ⟨_, _, rfl, HE.out.2.1, HC9.out, HM9.out, by simp, ?_, HE.out.1⟩
    intro b' o p e
    injection e with e
    injection e with e1 e2 e3
    subst e1 e3
    exact ⟨by have := HB9.out; have := HG.out; omega, rfl, HE.out.2.2⟩
end Fr
end Go.Proofs.Ytpdlholoeaphgaa
