/- Contract of the document's Flow. -/
import Derived.Test.YtjpdnnjijcmioaaFlR2
import Derived.Deep.DeepCutAuto
import Derived.Deep.RegionWith
import Derived.Test.YtjpdnnjijcmioaaFlS1
import Derived.Lib.MinMax
namespace Go.Proofs.Ytjpdnnjijcmioaa
open Go.RowKit M Fl
attribute [-go_sem] Builtin.append_
namespace Fl
theorem fresh_pos (sp : Int) (bg : Nat → Int → Bool) (L : List Bx) {k : Nat} (h : ¬ k = 0) : fresh sp bg L k = bg k (ad (run sp bg L k).1 (ln (L.getD k (0, 0)).1)) := by
  unfold fresh
  rw [decide_eq_false h, Bool.false_or]
theorem fresh_zero (sp : Int) (bg : Nat → Int → Bool) (L : List Bx) {k : Nat} (h : k = 0) : fresh sp bg L k = true := by
  unfold fresh
  rw [decide_eq_true h, Bool.true_or]
theorem run_x (sp : Int) (bg : Nat → Int → Bool) (L : List Bx) (k : Nat) : (run sp bg L (k + 1)).1 = ad (ad (if fresh sp bg L k = true then 0 else (run sp bg L k).1) (ln (L.getD k (0, 0)).1)) sp := by
  show (stp sp bg (run sp bg L k) k (L.getD k (0, 0))).1 = _
  unfold stp
  simp only
  congr 2
  unfold at0
  by_cases h : k = 0
  · subst h
    rw [if_neg (by omega), fresh_zero sp bg L rfl, if_pos rfl]
    rfl
  · rw [fresh_pos sp bg L h]
    by_cases hb : bg k (ad (run sp bg L k).1 (ln (L.getD k (0, 0)).1)) = true
    · rw [if_pos ⟨by omega, hb⟩, if_pos hb]
    · rw [if_neg (fun h => hb h.2), if_neg hb]
theorem Parts.xs_new {sp : Int} {bg : Nat → Int → Bool} {L : List Bx} {N k : Nat} {s : Nat → Nat} (h : Parts sp bg L N k s) (j : Nat) (hj : j < N + 1) :
    (if j = N then ([] : List Int) ++ [(k : Int)] else if j = N then [] else nums (s j) (s (j + 1))) = nums ((fun j => if j = N + 1 then k + 1 else s j) j) ((fun j => if j = N + 1 then k + 1 else s j) (j + 1)) := by
  by_cases e : j = N
  · subst e
    show (if j = j then ([] : List Int) ++ [(k : Int)] else if j = j then [] else nums (s j) (s (j + 1))) = nums (if j = j + 1 then k + 1 else s j) (if j + 1 = j + 1 then k + 1 else s (j + 1))
    rw [if_pos rfl, if_neg (by omega), if_pos rfl, h.e, nums_more k k (Nat.le_refl _), nums_self]
  · simp only
    rw [if_neg e, if_neg e, if_neg (by omega), if_neg (by omega)]
theorem Parts.xs_more {sp : Int} {bg : Nat → Int → Bool} {L : List Bx} {f k : Nat} {s : Nat → Nat} (h : Parts sp bg L (f + 1) k s) (j : Nat) (hj : j < f + 1) :
    (if j = f then nums (s f) (s (f + 1)) ++ [(k : Int)] else nums (s j) (s (j + 1))) = nums ((fun j => if j = f + 1 then k + 1 else s j) j) ((fun j => if j = f + 1 then k + 1 else s j) (j + 1)) := by
  simp only
  by_cases e : j = f
  · subst e
    have := h.up j (by omega)
    rw [if_pos rfl, if_neg (by omega), if_pos rfl, h.e, nums_more _ k (by have := h.e; omega)]
  · rw [if_neg e, if_neg (by omega), if_neg (by omega)]
end Fl
theorem infoSL : (Try.prog.info? 36).map (fun i => (i.zero, i.size, i.bytes)) = some (some (.slice none 0 0), 1, 24) := by kernel_rfl
theorem infoIN : (Try.prog.info? 3).map (fun i => (i.zero, i.size, i.bytes)) = some (some (.int .i64 0), 1, 8) := by kernel_rfl
theorem sleast_any (x : Int) (w : World) : Calls Try.prog 55 #[.int .i64 x] w fun e w' => e = .returned (.int .i64 (ln x)) ∧ w' = w := (least_any x w).mono fun _ _ h => ⟨h.1, h.2.symm⟩
theorem gr_cell {W : World} {base N G c : Nat} {vs : Nat → Value} {xs : Nat → List Int} (h : Gr W base N (.slice (some ⟨G, 0, none⟩) N c) vs xs) {j : Nat} (hj : j < N) : W.cell? ⟨G, j, none⟩ = some (vs j) := by
  rw [h.row.cellAt j (by omega)]
  simp [hj]
theorem lnz_take (L : List Bx) (k : Nat) (h : k < L.length) : cc ((L.map fun b => (ln b.1, ln b.2)).take (k + 1)) = cc ((L.map fun b => (ln b.1, ln b.2)).take k) ++ [.int .i64 (ln (L.getD k (0, 0)).1), .int .i64 (ln (L.getD k (0, 0)).2)] := by
  rw [take_cc _ k (by rw [List.length_map]; exact h), lns_at L k h]
theorem bxK_len (kind width : Int) (L : List Bx) : (bxK kind width L).length = L.length := by unfold bxK; split <;> simp
theorem bxK_at01 {kind : Int} (width : Int) (L : List Bx) (k : Nat) (h : kind = 0 ∨ kind = 1) : (bxK kind width L).getD k (0, 0) = L.getD k (0, 0) := by rw [bxK01 width L h]
theorem bxK_at2 {kind : Int} (width : Int) (L : List Bx) (k : Nat) (hk : k < L.length) (h0 : ¬ kind = 0) (h1 : ¬ kind = 1) : (bxK kind width L).getD k (0, 0) = (width, (L.getD k (0, 0)).2) := by
  rw [bxK2 width L h0 h1]
  simp [List.getD_eq_getElem?_getD, List.getElem?_map, List.getElem?_eq_getElem hk]
set_option maxHeartbeats 8000000 in
set_option maxRecDepth 100000 in
theorem flow_any (kind width cols gap : Int) (A : Option Addr) (n c : Nat) (L : List Bx) (w : World) (hkind : kind = 0 ∨ kind = 1 ∨ kind = 2) (hn : n = L.length) (hb : n ≤ 1000) (ha : At w A (cc L)) :
    Calls Try.prog 35 #[.int .i64 kind, .int .i64 width, .int .i64 cols, .int .i64 gap, .slice A n c] w fun e w' => ∃ v, e = .returned (.tuple #[v, .agg #[.int .i64 (run (ln gap) (bgK kind width cols) (bxK kind width L) n).2.2.1, .int .i64 (run (ln gap) (bgK kind width cols) (bxK kind width L) n).2.2.2]]) ∧ w'.ownsRow w.heap.size 72 2 v n (cc (pts (ln gap) (bgK kind width cols) (bxK kind width L) n)) ∧ Below w.heap.size w w' := by
  obtain ⟨i0, hi, hz0, hz1, hz2⟩ := info_parts infoRS
  obtain ⟨i1, ji, jz0, jz1, jz2⟩ := info_parts infoSL
  obtain ⟨i2, li, lz0, lz1, lz2⟩ := info_parts infoIN
  have HN := Lib.hid hn
  have HA := Lib.hid ha
  have hLL : n = (bxK kind width L).length := by rw [bxK_len]; exact hn
  obtain ⟨L', hL'⟩ : ∃ L', L' = bxK kind width L := ⟨_, rfl⟩
  obtain ⟨bg, hbg⟩ : ∃ bg, bg = bgK kind width cols := ⟨_, rfl⟩
  rw [← hL', ← hbg]
  rw [← hL'] at hLL
  have HL' := Lib.hid hL'
  have HBG := Lib.hid hbg
  have HLL := Lib.hid hLL
  have hsp0 := ln_lo gap
  obtain ⟨sp, hsp⟩ : ∃ sp, sp = ln gap := ⟨_, rfl⟩
  obtain ⟨qw, hqw⟩ : ∃ qw, qw = ln width := ⟨_, rfl⟩
  obtain ⟨ee, hee⟩ : ∃ ee, ee = max 1 (min cols 64) := ⟨_, rfl⟩
  rw [← hsp] at hsp0 ⊢
  have HEE : Hid (ee = clp cols 1 64) := by show _ = _; unfold clp; omega
  have he1 : 1 ≤ ee := by omega
  have he2 : ee ≤ 64 := by omega
  have HSP := Lib.hid hsp0
  have HQW := Lib.hid hqw
  clear hn ha hL' hbg hLL hsp0
  go_enter Try.func35, Try.ntmps35
  go_wp2_with (go_at_call 55; refine (least_any _ _).mono ?_; rintro e9 w9 ⟨rfl, rfl⟩)
  rw [← hsp, ← hqw, ← hee]
  clear hsp hqw hee
  obtain ⟨W1, hW1⟩ : ∃ W1, W1 = ((w.alloc (.cells #[.int .i64 0, .int .i64 0] 68)).alloc (.cells #[] 68)).alloc (.cells #[] 36) := ⟨_, rfl⟩
  rw [← hW1]
  generalize hg : w.heap.size = g at *
  have K1 : Hid (Blk W1 g 68 #[.int .i64 0, .int .i64 0]) := by show Blk _ _ _ _; rw [hW1]; exact ((Blk.new' w _ _ g hg).alloc _).alloc _
  have O1 : Hid (W1.ownsRow (g + 1) 68 2 (.slice (some ⟨g + 1, 0, none⟩) 0 0) 0 []) := by
    show World.ownsRow _ _ _ _ _ _ _
    rw [hW1]
    exact (own_made _ (g + 1) (by rw [size_alloc, hg]) (Nat.le_refl _)).alloc _
  have R1 : Hid (W1.ownsRow (g + 1) 36 1 (.slice (some ⟨g + 1 + 1, 0, none⟩) 0 0) 0 []) := by
    show World.ownsRow _ _ _ _ _ _ _
    rw [hW1]
    exact own_made _ (g + 1 + 1) (by rw [size_alloc, size_alloc, hg]) (by omega)
  have B1 : Hid (Below g w W1) := by show Below _ _ _; rw [hW1, ← hg]; exact ((below_alloc w _).alloc (by simp) _).alloc (by rw [size_alloc, size_alloc]; omega) _
  have z1 : W1.heap.size = g + 3 := by rw [hW1, size_alloc, size_alloc, size_alloc, hg]
  clear hW1
  have HGG := Lib.hid hg
  clear hg
  go_loopw [15, 16, 17, 33] (fun vz vr x i wr => ∃ (k N : Nat) (vs : Nat → Value) (s : Nat → Nat), k ≤ n ∧ i = .int .i64 k ∧ x = .int .i64 (run sp bg L' k).1 ∧ Hid (Parts sp bg L' N k s) ∧ Hid (Gr wr (g + 1) N vr vs (fun j => nums (s j) (s (j + 1)))) ∧
    Hid (wr.ownsRow (g + 1) 68 2 vz k (cc ((L'.map fun b => (ln b.1, ln b.2)).take k))) ∧ Hid (Blk wr g 68 #[.int .i64 0, .int .i64 0]) ∧ Hid (Below g w wr) ∧ g + 3 ≤ wr.heap.size) (fun _ _ _ i _ => n - (intOf i).toNat)
  case atStart => exact ⟨0, 0, fun _ => .slice none 0 0, fun _ => 0, Nat.zero_le _, rfl, rfl, Parts.none _ _ _, Gr.none _ _ _ _ R1.out, by rw [List.take_zero]; exact O1, K1, B1, by omega⟩
  case round =>
    obtain ⟨k, N, vs, s, hk, rfl, rfl, HPA, hgr, OZ, OK, OB, hsz⟩ := hrel
    obtain ⟨Az, cz, rfl, hcz, hmz⟩ := own_slice OZ.out
    by_cases hlt : k < n
    · have hkL : k < L.length := by have := HN.out; omega
      obtain ⟨bS, oS, rfl, hbS, hs0', hs1'⟩ := at_box HA.out hkL
      have hc0 := (OB.out.cell (p := ⟨bS, oS + k * 2, none⟩) (by rw [← HGG.out]; exact hbS)).trans hs0'
      have hc1 := (OB.out.cell (p := ⟨bS, oS + k * 2 + 1, none⟩) (by rw [← HGG.out]; exact hbS)).trans hs1'
      have HZT0 := Lib.hid (lnz_take L' k (by have := HLL.out; omega))
      have hNk := (HPA.out.le N (Nat.le_refl _)).2
      rw [HPA.out.e] at hNk
      obtain ⟨xx, hxx⟩ : ∃ xx, (run sp bg L' k).1 = xx := ⟨_, rfl⟩
      rw [hxx]
      have HXX := Lib.hid hxx
      clear hxx hs0' hs1'
      have HA01 : Hid (kind = 0 ∨ kind = 1 → L'.getD k (0, 0) = L.getD k (0, 0)) := fun h => by rw [HL'.out]; exact bxK_at01 width L k h
      have HA2 : Hid (kind = 2 → L'.getD k (0, 0) = (width, (L.getD k (0, 0)).2)) := fun h => by rw [HL'.out]; exact bxK_at2 width L k hkL (by omega) (by omega)
      have HFZ := Lib.hid (fresh_zero sp bg L' (k := k))
      have HFP := Lib.hid (fresh_pos sp bg L' (k := k))
      generalize (L.getD k (0, 0)) = bx at *
      obtain ⟨bw, bh⟩ := bx
      simp only at hc0 hc1
      obtain ⟨U0, hU0⟩ : ∃ U0, U0 = wr.alloc (.cells #[.int .i64 bw, .int .i64 bh] 68) := ⟨_, rfl⟩
      have XP := Lib.hid (show Blk U0 wr.heap.size _ _ by rw [hU0]; exact Blk.new wr 68 #[.int .i64 bw, .int .i64 bh])
      have XZ := Lib.hid (show World.ownsRow U0 _ _ _ _ _ _ by rw [hU0]; exact OZ.out.alloc _)
      have XR := Lib.hid (show Gr U0 _ _ _ _ _ by rw [hU0]; exact hgr.out.alloc _)
      have XK := Lib.hid (show Blk U0 g _ _ by rw [hU0]; exact OK.out.alloc _)
      have XB : Hid (Below g w U0) := by show Below _ _ _; rw [hU0]; exact OB.out.alloc (by omega) _
      have xz : U0.heap.size = wr.heap.size + 1 := by rw [hU0, size_alloc]
      go_upto_region 10 with fail
      rw [← hU0]
      clear hU0 hc0 hc1
      obtain ⟨⟨p0, p1⟩, q0, q1⟩ := XP.out.two
      generalize wr.heap.size = ps at *
      obtain ⟨⟨r0, r1⟩, _⟩ := (XP.out.alloc (.cells #[.int .i64 0, .int .i64 0] 68)).two
      go_cut [20] (fun p wx => p = .pointer (some ⟨ps + 1, 0, none⟩) ∧ wx = (U0.alloc (.cells #[.int .i64 (ln bw), .int .i64 (ln bh)] 68)).drew)
      case first =>
        go_region_with (go_at_call 55; refine (least_any _ _).mono ?_; rintro e9 w9 ⟨rfl, rfl⟩)
        all_goals (go_wp2_with fail; go_meet; exact ⟨rfl, rfl⟩)
      case' rest =>
        obtain ⟨rfl, rfl⟩ := hcut
      obtain ⟨U, hU⟩ : ∃ U, U = (U0.alloc (.cells #[.int .i64 (ln bw), .int .i64 (ln bh)] 68)).drew := ⟨_, rfl⟩
      rw [← hU]
      clear p0 p1 q0 q1 r0 r1
      obtain ⟨pb, hpbq⟩ : ∃ pb, pb = ps + 1 := ⟨_, rfl⟩
      rw [← hpbq] at xz ⊢
      have HXL : Hid (∀ b, (Value.slice Az k cz).ownBlock = some b → b < pb) := fun b h => by have := (XZ.out.lt b h).2; omega
      have UP : Hid (Blk U pb 68 #[.int .i64 (ln bw), .int .i64 (ln bh)]) := by show Blk _ _ _ _; rw [hU]; exact Blk.new' U0 _ _ pb xz
      have UZ := Lib.hid (show World.ownsRow U _ _ _ _ _ _ by rw [hU]; exact own_heap (XZ.out.alloc (.cells #[.int .i64 (ln bw), .int .i64 (ln bh)] 68)) rfl)
      have UR := Lib.hid (show Gr U _ _ _ _ _ by rw [hU]; exact (XR.out.alloc (.cells #[.int .i64 (ln bw), .int .i64 (ln bh)] 68)).heap rfl)
      have UK := Lib.hid (show Blk U g _ _ by rw [hU]; exact (XK.out.alloc (.cells #[.int .i64 (ln bw), .int .i64 (ln bh)] 68)).drew)
      have UB : Hid (Below g w U) := by show Below _ _ _; rw [hU]; exact Below_drew (XB.out.alloc (by omega) _)
      have uz : pb + 1 ≤ U.heap.size := by rw [hU]; show _ ≤ (U0.alloc _).heap.size; rw [size_alloc]; omega
      have hpg : g + 4 ≤ pb := by omega
      clear hpbq xz XP XZ XR XK XB hU
      rcases hkind with rfl | rfl | rfl
      · obtain ⟨⟨p0, p1⟩, q0, q1⟩ := UP.out.two
        go_upto_region 13 with fail
        clear p0 p1 q0 q1
        obtain ⟨lw, hlw⟩ : ∃ lw, lw = ln bw := ⟨_, rfl⟩
        obtain ⟨lh, hlh⟩ : ∃ lh, lh = ln bh := ⟨_, rfl⟩
        rw [← hlw, ← hlh] at UP
        obtain ⟨V, hV⟩ : ∃ V, V = U := ⟨_, rfl⟩
        rw [← hV]
        have HLW : Hid (ln (L'.getD k (0, 0)).1 = lw) := by show _ = _; rw [HA01.out (by omega), hlw]
        have HLH : Hid (ln (L'.getD k (0, 0)).2 = lh) := by show _ = _; rw [HA01.out (by omega), hlh]
        have HZT : Hid (cc ((L'.map fun b => (ln b.1, ln b.2)).take (k + 1)) = cc ((L'.map fun b => (ln b.1, ln b.2)).take k) ++ [.int .i64 lw, .int .i64 lh]) := by show _ = _; rw [HZT0.out, HLW.out, HLH.out]
        have VP := Lib.hid (show Blk V pb _ _ by rw [hV]; exact UP.out)
        have VZ := Lib.hid (show World.ownsRow V _ _ _ _ _ _ by rw [hV]; exact UZ.out)
        have VR := Lib.hid (show Gr V _ _ _ _ _ by rw [hV]; exact UR.out)
        have VK := Lib.hid (show Blk V g _ _ by rw [hV]; exact UK.out)
        have VB : Hid (Below g w V) := by show Below _ _ _; rw [hV]; exact UB.out
        have vz : pb + 1 ≤ V.heap.size := by rw [hV]; exact uz
        clear hV hlw hlh UP UZ UR UK UB uz
        obtain ⟨⟨p0, p1⟩, q0, q1⟩ := VP.out.two
        by_cases hk0 : k = 0
        · have hkb : ((k : Int) == 0) = true := by rw [beq_iff_eq]; omega
          have HFR := Lib.hid (HFZ.out hk0)
          clear hk0
          obtain ⟨v1, w1, hrun1, hown1, hgrow1, _, hat1⟩ := run_append_own_at (P := Try.prog) (V.alloc (.cells #[.int .i64 lw, .int .i64 lh] 68)) (g + 1) 59 59 68 i0 _ 2 16 Try.underlying59 hi hz0 hz1 hz2 rfl (by decide) _ _ _ (VZ.out.alloc (.cells #[.int .i64 lw, .int .i64 lh] 68)) ⟨V.heap.size, 0, none⟩ 1 1 [.int .i64 lw, .int .i64 lh] rfl (cells_new' _ _ _ _ rfl _ rfl) (cc_one [(lw, lh)]) (by unfold maxLen; omega) (by omega) (by rw [size_alloc]; omega)
          have hpb1 : some pb ≠ (Value.slice Az k cz).ownBlock := fun e9 => by have := HXL.out pb e9.symm; omega
          have EZ := Lib.hid (show w1.ownsRow (g + 1) 68 2 v1 (k + 1) (cc ((L'.map fun b => (ln b.1, ln b.2)).take (k + 1))) by rw [HZT.out]; exact hown1)
          have EB := Lib.hid ((VP.out.alloc (.cells #[.int .i64 lw, .int .i64 lh] 68)).grown hgrow1 hpb1)
          have EK := Lib.hid ((VK.out.alloc (.cells #[.int .i64 lw, .int .i64 lh] 68)).grown hgrow1 (fun e9 => by have := (OZ.out.lt g e9.symm).1; omega))
          have ER := Lib.hid ((VR.out.alloc (.cells #[.int .i64 lw, .int .i64 lh] 68)).other (VZ.out.alloc (.cells #[.int .i64 lw, .int .i64 lh] 68)) hgrow1 (by decide) (by decide))
          have EL : Hid (Below g w w1) := Below.grown (VB.out.alloc (by omega) (.cells #[.int .i64 lw, .int .i64 lh] 68)) hgrow1 (by rw [size_alloc]; omega) (fun q hq => by have := (OZ.out.lt q hq).1; omega)
          have es : V.heap.size + 1 ≤ w1.heap.size := by have := hgrow1.size; rw [size_alloc] at this; exact this
          have hvb := VP.out.lt
          clear hown1 hgrow1 hat1 hpb1
          obtain ⟨A1, c1, rfl, hc1, hm1⟩ := own_slice EZ.out
          obtain ⟨v2, w2, hrun2, hown2, hgrow2, _, hat2⟩ := run_append_own_at (P := Try.prog) ((w1.alloc (.cells #[] 3)).alloc (.cells #[.slice (some ⟨w1.heap.size, 0, none⟩) 0 0] 36)) (g + 1) 96 96 36 i1 _ 1 24 Try.underlying96 ji jz0 jz1 jz2 rfl (by decide) _ _ _ ((ER.out.row.alloc (.cells #[] 3)).alloc (.cells #[.slice (some ⟨w1.heap.size, 0, none⟩) 0 0] 36)) ⟨w1.heap.size + 1, 0, none⟩ 1 1 [.slice (some ⟨w1.heap.size, 0, none⟩) 0 0] rfl (cells_new' _ _ _ _ rfl _ (by rw [size_alloc])) (fun u hu => by rw [List.mem_singleton.1 hu]; rfl) (by unfold maxLen; omega) (by omega) (by rw [size_alloc, size_alloc]; omega)
          have hnew : ((w1.alloc (.cells #[] 3)).alloc (.cells #[.slice (some ⟨w1.heap.size, 0, none⟩) 0 0] 36)).ownsRow (g + 1) 3 1 (.slice (some ⟨w1.heap.size, 0, none⟩) 0 0) 0 [] := (own_made w1 w1.heap.size rfl (by omega)).alloc _
          have FR := Lib.hid (((ER.out.alloc (.cells #[] 3)).alloc (.cells #[.slice (some ⟨w1.heap.size, 0, none⟩) 0 0] 36)).push (g := w1.heap.size) hown2 hgrow2 hnew rfl (fun j hj e9 => Nat.lt_irrefl _ ((ER.out.each j hj).lt _ e9).2))
          have hR2 := (ER.out.row.alloc (.cells #[] 3)).alloc (.cells #[.slice (some ⟨w1.heap.size, 0, none⟩) 0 0] 36)
          have FZ := Lib.hid (((EZ.out.alloc (.cells #[] 3)).alloc (.cells #[.slice (some ⟨w1.heap.size, 0, none⟩) 0 0] 36)).kept hgrow2 (own_ne ((EZ.out.alloc (.cells #[] 3)).alloc (.cells #[.slice (some ⟨w1.heap.size, 0, none⟩) 0 0] 36)) hR2 (by decide)))
          have FB := Lib.hid (((EB.out.alloc (.cells #[] 3)).alloc (.cells #[.slice (some ⟨w1.heap.size, 0, none⟩) 0 0] 36)).grown hgrow2 (own_blk' hR2 ((EB.out.alloc (.cells #[] 3)).alloc (.cells #[.slice (some ⟨w1.heap.size, 0, none⟩) 0 0] 36)) (by decide)))
          have FK := Lib.hid (((EK.out.alloc (.cells #[] 3)).alloc (.cells #[.slice (some ⟨w1.heap.size, 0, none⟩) 0 0] 36)).grown hgrow2 (own_blk' hR2 ((EK.out.alloc (.cells #[] 3)).alloc (.cells #[.slice (some ⟨w1.heap.size, 0, none⟩) 0 0] 36)) (by decide)))
          have FL : Hid (Below g w w2) := Below.grown ((EL.out.alloc (by omega) (.cells #[] 3)).alloc (by rw [size_alloc]; omega) (.cells #[.slice (some ⟨w1.heap.size, 0, none⟩) 0 0] 36)) hgrow2 (by rw [size_alloc, size_alloc]; omega) (fun q hq => by have := (ER.out.row.lt q hq).1; omega)
          have fs : w1.heap.size + 2 ≤ w2.heap.size := by have := hgrow2.size; rw [size_alloc, size_alloc] at this; exact this
          have hpq := EB.out.lt
          clear hown2 hgrow2 hat2 hnew hR2
          obtain ⟨M, hf⟩ : ∃ M, M = N + 1 := ⟨_, rfl⟩
          rw [← hf] at FR
          obtain ⟨G, cG, hGe, hGb, hGl, hGc, hGm⟩ := own_head FR.out.row (by omega)
          subst hGe
          have hfM : N < M := by omega
          have hcell := gr_cell FR.out hfM
          have hlastown := FR.out.each N hfM
          simp only [if_true] at hcell hlastown
          obtain ⟨A3, c3, hv3, hc3, hm3⟩ := own_slice hlastown
          have hln : ([] : List Int).length ≤ k := Nat.zero_le _
          obtain ⟨v3, w3, hrun3, hown3, hgrow3, _, hat3⟩ := run_append_own_at (P := Try.prog) (w2.alloc (.cells #[.int .i64 k] 3)) (g + 1) 36 36 3 i2 _ 1 8 Try.underlying36 li lz0 lz1 lz2 rfl (by decide) _ _ _ (hlastown.alloc (.cells #[.int .i64 k] 3)) ⟨w2.heap.size, 0, none⟩ 1 1 [.int .i64 k] rfl (cells_new' _ _ _ _ rfl _ rfl) (fun u hu => by rw [List.mem_singleton.1 hu]; rfl) (by unfold maxLen; omega) (by omega) (by rw [size_alloc]; omega)
          have hown3 : w3.ownsRow (g + 1) 3 1 v3 1 (iz [] ++ [.int .i64 k]) := hown3
          obtain ⟨A4, c4, hv4, _, _⟩ := own_slice hown3
          subst hv4
          have LR := Lib.hid ((FR.out.alloc (.cells #[.int .i64 k] 3)).last (x := (k : Int)) hfM (by simp only [if_true]; exact hown3) (by simp only [if_true]; exact hgrow3) (by simp only [if_true]; exact hat3))
          have hLo := hlastown.alloc (.cells #[.int .i64 k] 3)
          have LZ := Lib.hid ((FZ.out.alloc (.cells #[.int .i64 k] 3)).kept hgrow3 (own_ne (FZ.out.alloc (.cells #[.int .i64 k] 3)) hLo (by decide)))
          have LB := Lib.hid ((FB.out.alloc (.cells #[.int .i64 k] 3)).grown hgrow3 (own_blk' hLo (FB.out.alloc (.cells #[.int .i64 k] 3)) (by decide)))
          have LK := Lib.hid ((FK.out.alloc (.cells #[.int .i64 k] 3)).grown hgrow3 (own_blk' hLo (FK.out.alloc (.cells #[.int .i64 k] 3)) (by decide)))
          have hGrow := (FR.out.row.alloc (.cells #[.int .i64 k] 3)).kept hgrow3 (own_ne (FR.out.row.alloc (.cells #[.int .i64 k] 3)) hLo (by decide))
          have LL : Hid (Below g w w3) := Below.grown (FL.out.alloc (by omega) (.cells #[.int .i64 k] 3)) hgrow3 (by rw [size_alloc]; omega) (fun q hq => by have := (hlastown.lt q hq).1; omega)
          have ls : w2.heap.size + 1 ≤ w3.heap.size := by have := hgrow3.size; rw [size_alloc] at this; exact this
          have LZ9 := Lib.hid (LZ.out.kept (grown_set w3 ⟨G, N, none⟩ (.slice A4 1 c4)) (own_ne LZ.out hGrow (by decide)))
          have hGBne : pb ≠ G := fun e9 => own_blk' hGrow LB.out (by decide) (by rw [e9]; rfl)
          have hGKne : g ≠ G := fun e9 => own_blk' hGrow LK.out (by decide) (by rw [e9]; rfl)
          have hG1 := hGrow.frozenAt N
          obtain ⟨oldv, hG0⟩ : ∃ u, w3.cell? ⟨G, N, none⟩ = some u := ⟨_, (hGrow.cellAt N (by omega)).trans (List.getElem?_eq_getElem (by simp; omega))⟩
          clear hown3 hgrow3 hat3 hLo hGrow
          have hwr : IntKind.i64.wrap ((M : Int) - 1) = (N : Int) := by rw [IntKind.wrap_i64]; omega
          obtain ⟨⟨p0, p1⟩, q0, q1⟩ := EB.out.two
          obtain ⟨⟨p2, p3⟩, q2, q3⟩ := (LB.out.other G N (.slice A4 1 c4) hGBne).two
          go_wp2_with (go_at_call 17; refine (radd_any' _ _ _).mono ?_; rintro e9 w9 ⟨rfl, rfl⟩)
          clear hrun1 hrun2 hrun3
          go_roundw
          case rel =>
            subst hf
            refine ⟨k + 1, N + 1, (fun j => if j = N then .slice A4 1 c4 else (fun j => if j = N then .slice (some ⟨w1.heap.size, 0, none⟩) 0 0 else vs j) j), (fun j => if j = N + 1 then k + 1 else s j), by omega, by go_num, ?_, HPA.out.new HFR.out, ?_, ?_, LK.out.other G N (.slice A4 1 c4) hGKne, ?_, ?_⟩
            · rw [run_x, HFR.out, if_pos rfl, HLW.out]
            · refine LR.out.congr (fun j _ => rfl) (fun j hj => ?_)
              have h8 := HPA.out.xs_new j (by omega)
              simp only [if_true]
              exact h8
            · exact LZ9.out
            · exact below_setg LL.out G N (.slice A4 1 c4) (by omega) (by omega)
            · rw [setCell_size']; omega
          case measure => simp [intOf]; omega
        · have hkb : ((k : Int) == 0) = false := by rw [beq_eq_false_iff_ne]; omega
          have HFR : Hid (fresh sp bg L' k = true) := by show _ = _; rw [HFP.out hk0, HBG.out, bgK0]; rfl
          obtain ⟨v1, w1, hrun1, hown1, hgrow1, _, hat1⟩ := run_append_own_at (P := Try.prog) (V.alloc (.cells #[.int .i64 lw, .int .i64 lh] 68)) (g + 1) 59 59 68 i0 _ 2 16 Try.underlying59 hi hz0 hz1 hz2 rfl (by decide) _ _ _ (VZ.out.alloc (.cells #[.int .i64 lw, .int .i64 lh] 68)) ⟨V.heap.size, 0, none⟩ 1 1 [.int .i64 lw, .int .i64 lh] rfl (cells_new' _ _ _ _ rfl _ rfl) (cc_one [(lw, lh)]) (by unfold maxLen; omega) (by omega) (by rw [size_alloc]; omega)
          have hpb1 : some pb ≠ (Value.slice Az k cz).ownBlock := fun e9 => by have := HXL.out pb e9.symm; omega
          have EZ := Lib.hid (show w1.ownsRow (g + 1) 68 2 v1 (k + 1) (cc ((L'.map fun b => (ln b.1, ln b.2)).take (k + 1))) by rw [HZT.out]; exact hown1)
          have EB := Lib.hid ((VP.out.alloc (.cells #[.int .i64 lw, .int .i64 lh] 68)).grown hgrow1 hpb1)
          have EK := Lib.hid ((VK.out.alloc (.cells #[.int .i64 lw, .int .i64 lh] 68)).grown hgrow1 (fun e9 => by have := (OZ.out.lt g e9.symm).1; omega))
          have ER := Lib.hid ((VR.out.alloc (.cells #[.int .i64 lw, .int .i64 lh] 68)).other (VZ.out.alloc (.cells #[.int .i64 lw, .int .i64 lh] 68)) hgrow1 (by decide) (by decide))
          have EL : Hid (Below g w w1) := Below.grown (VB.out.alloc (by omega) (.cells #[.int .i64 lw, .int .i64 lh] 68)) hgrow1 (by rw [size_alloc]; omega) (fun q hq => by have := (OZ.out.lt q hq).1; omega)
          have es : V.heap.size + 1 ≤ w1.heap.size := by have := hgrow1.size; rw [size_alloc] at this; exact this
          have hvb := VP.out.lt
          clear hown1 hgrow1 hat1 hpb1
          obtain ⟨A1, c1, rfl, hc1, hm1⟩ := own_slice EZ.out
          obtain ⟨v2, w2, hrun2, hown2, hgrow2, _, hat2⟩ := run_append_own_at (P := Try.prog) ((w1.alloc (.cells #[] 3)).alloc (.cells #[.slice (some ⟨w1.heap.size, 0, none⟩) 0 0] 36)) (g + 1) 96 96 36 i1 _ 1 24 Try.underlying96 ji jz0 jz1 jz2 rfl (by decide) _ _ _ ((ER.out.row.alloc (.cells #[] 3)).alloc (.cells #[.slice (some ⟨w1.heap.size, 0, none⟩) 0 0] 36)) ⟨w1.heap.size + 1, 0, none⟩ 1 1 [.slice (some ⟨w1.heap.size, 0, none⟩) 0 0] rfl (cells_new' _ _ _ _ rfl _ (by rw [size_alloc])) (fun u hu => by rw [List.mem_singleton.1 hu]; rfl) (by unfold maxLen; omega) (by omega) (by rw [size_alloc, size_alloc]; omega)
          have hnew : ((w1.alloc (.cells #[] 3)).alloc (.cells #[.slice (some ⟨w1.heap.size, 0, none⟩) 0 0] 36)).ownsRow (g + 1) 3 1 (.slice (some ⟨w1.heap.size, 0, none⟩) 0 0) 0 [] := (own_made w1 w1.heap.size rfl (by omega)).alloc _
          have FR := Lib.hid (((ER.out.alloc (.cells #[] 3)).alloc (.cells #[.slice (some ⟨w1.heap.size, 0, none⟩) 0 0] 36)).push (g := w1.heap.size) hown2 hgrow2 hnew rfl (fun j hj e9 => Nat.lt_irrefl _ ((ER.out.each j hj).lt _ e9).2))
          have hR2 := (ER.out.row.alloc (.cells #[] 3)).alloc (.cells #[.slice (some ⟨w1.heap.size, 0, none⟩) 0 0] 36)
          have FZ := Lib.hid (((EZ.out.alloc (.cells #[] 3)).alloc (.cells #[.slice (some ⟨w1.heap.size, 0, none⟩) 0 0] 36)).kept hgrow2 (own_ne ((EZ.out.alloc (.cells #[] 3)).alloc (.cells #[.slice (some ⟨w1.heap.size, 0, none⟩) 0 0] 36)) hR2 (by decide)))
          have FB := Lib.hid (((EB.out.alloc (.cells #[] 3)).alloc (.cells #[.slice (some ⟨w1.heap.size, 0, none⟩) 0 0] 36)).grown hgrow2 (own_blk' hR2 ((EB.out.alloc (.cells #[] 3)).alloc (.cells #[.slice (some ⟨w1.heap.size, 0, none⟩) 0 0] 36)) (by decide)))
          have FK := Lib.hid (((EK.out.alloc (.cells #[] 3)).alloc (.cells #[.slice (some ⟨w1.heap.size, 0, none⟩) 0 0] 36)).grown hgrow2 (own_blk' hR2 ((EK.out.alloc (.cells #[] 3)).alloc (.cells #[.slice (some ⟨w1.heap.size, 0, none⟩) 0 0] 36)) (by decide)))
          have FL : Hid (Below g w w2) := Below.grown ((EL.out.alloc (by omega) (.cells #[] 3)).alloc (by rw [size_alloc]; omega) (.cells #[.slice (some ⟨w1.heap.size, 0, none⟩) 0 0] 36)) hgrow2 (by rw [size_alloc, size_alloc]; omega) (fun q hq => by have := (ER.out.row.lt q hq).1; omega)
          have fs : w1.heap.size + 2 ≤ w2.heap.size := by have := hgrow2.size; rw [size_alloc, size_alloc] at this; exact this
          have hpq := EB.out.lt
          clear hown2 hgrow2 hat2 hnew hR2
          obtain ⟨M, hf⟩ : ∃ M, M = N + 1 := ⟨_, rfl⟩
          rw [← hf] at FR
          obtain ⟨G, cG, hGe, hGb, hGl, hGc, hGm⟩ := own_head FR.out.row (by omega)
          subst hGe
          have hfM : N < M := by omega
          have hcell := gr_cell FR.out hfM
          have hlastown := FR.out.each N hfM
          simp only [if_true] at hcell hlastown
          obtain ⟨A3, c3, hv3, hc3, hm3⟩ := own_slice hlastown
          have hln : ([] : List Int).length ≤ k := Nat.zero_le _
          obtain ⟨v3, w3, hrun3, hown3, hgrow3, _, hat3⟩ := run_append_own_at (P := Try.prog) (w2.alloc (.cells #[.int .i64 k] 3)) (g + 1) 36 36 3 i2 _ 1 8 Try.underlying36 li lz0 lz1 lz2 rfl (by decide) _ _ _ (hlastown.alloc (.cells #[.int .i64 k] 3)) ⟨w2.heap.size, 0, none⟩ 1 1 [.int .i64 k] rfl (cells_new' _ _ _ _ rfl _ rfl) (fun u hu => by rw [List.mem_singleton.1 hu]; rfl) (by unfold maxLen; omega) (by omega) (by rw [size_alloc]; omega)
          have hown3 : w3.ownsRow (g + 1) 3 1 v3 1 (iz [] ++ [.int .i64 k]) := hown3
          obtain ⟨A4, c4, hv4, _, _⟩ := own_slice hown3
          subst hv4
          have LR := Lib.hid ((FR.out.alloc (.cells #[.int .i64 k] 3)).last (x := (k : Int)) hfM (by simp only [if_true]; exact hown3) (by simp only [if_true]; exact hgrow3) (by simp only [if_true]; exact hat3))
          have hLo := hlastown.alloc (.cells #[.int .i64 k] 3)
          have LZ := Lib.hid ((FZ.out.alloc (.cells #[.int .i64 k] 3)).kept hgrow3 (own_ne (FZ.out.alloc (.cells #[.int .i64 k] 3)) hLo (by decide)))
          have LB := Lib.hid ((FB.out.alloc (.cells #[.int .i64 k] 3)).grown hgrow3 (own_blk' hLo (FB.out.alloc (.cells #[.int .i64 k] 3)) (by decide)))
          have LK := Lib.hid ((FK.out.alloc (.cells #[.int .i64 k] 3)).grown hgrow3 (own_blk' hLo (FK.out.alloc (.cells #[.int .i64 k] 3)) (by decide)))
          have hGrow := (FR.out.row.alloc (.cells #[.int .i64 k] 3)).kept hgrow3 (own_ne (FR.out.row.alloc (.cells #[.int .i64 k] 3)) hLo (by decide))
          have LL : Hid (Below g w w3) := Below.grown (FL.out.alloc (by omega) (.cells #[.int .i64 k] 3)) hgrow3 (by rw [size_alloc]; omega) (fun q hq => by have := (hlastown.lt q hq).1; omega)
          have ls : w2.heap.size + 1 ≤ w3.heap.size := by have := hgrow3.size; rw [size_alloc] at this; exact this
          have LZ9 := Lib.hid (LZ.out.kept (grown_set w3 ⟨G, N, none⟩ (.slice A4 1 c4)) (own_ne LZ.out hGrow (by decide)))
          have hGBne : pb ≠ G := fun e9 => own_blk' hGrow LB.out (by decide) (by rw [e9]; rfl)
          have hGKne : g ≠ G := fun e9 => own_blk' hGrow LK.out (by decide) (by rw [e9]; rfl)
          have hG1 := hGrow.frozenAt N
          obtain ⟨oldv, hG0⟩ : ∃ u, w3.cell? ⟨G, N, none⟩ = some u := ⟨_, (hGrow.cellAt N (by omega)).trans (List.getElem?_eq_getElem (by simp; omega))⟩
          clear hown3 hgrow3 hat3 hLo hGrow
          have hwr : IntKind.i64.wrap ((M : Int) - 1) = (N : Int) := by rw [IntKind.wrap_i64]; omega
          obtain ⟨⟨p0, p1⟩, q0, q1⟩ := EB.out.two
          obtain ⟨⟨p2, p3⟩, q2, q3⟩ := (LB.out.other G N (.slice A4 1 c4) hGBne).two
          go_wp2_with (go_at_call 17; refine (radd_any' _ _ _).mono ?_; rintro e9 w9 ⟨rfl, rfl⟩)
          clear hrun1 hrun2 hrun3
          go_roundw
          case rel =>
            subst hf
            refine ⟨k + 1, N + 1, (fun j => if j = N then .slice A4 1 c4 else (fun j => if j = N then .slice (some ⟨w1.heap.size, 0, none⟩) 0 0 else vs j) j), (fun j => if j = N + 1 then k + 1 else s j), by omega, by go_num, ?_, HPA.out.new HFR.out, ?_, ?_, LK.out.other G N (.slice A4 1 c4) hGKne, ?_, ?_⟩
            · rw [run_x, HFR.out, if_pos rfl, HLW.out]
            · refine LR.out.congr (fun j _ => rfl) (fun j hj => ?_)
              have h8 := HPA.out.xs_new j (by omega)
              simp only [if_true]
              exact h8
            · exact LZ9.out
            · exact below_setg LL.out G N (.slice A4 1 c4) (by omega) (by omega)
            · rw [setCell_size']; omega
          case measure => simp [intOf]; omega
      · obtain ⟨⟨p0, p1⟩, q0, q1⟩ := UP.out.two
        go_upto_region 13 with fail
        clear p0 p1 q0 q1
        obtain ⟨lw, hlw⟩ : ∃ lw, lw = ln bw := ⟨_, rfl⟩
        obtain ⟨lh, hlh⟩ : ∃ lh, lh = ln bh := ⟨_, rfl⟩
        rw [← hlw, ← hlh] at UP
        obtain ⟨V, hV⟩ : ∃ V, V = U := ⟨_, rfl⟩
        rw [← hV]
        have HLW : Hid (ln (L'.getD k (0, 0)).1 = lw) := by show _ = _; rw [HA01.out (by omega), hlw]
        have HLH : Hid (ln (L'.getD k (0, 0)).2 = lh) := by show _ = _; rw [HA01.out (by omega), hlh]
        have HZT : Hid (cc ((L'.map fun b => (ln b.1, ln b.2)).take (k + 1)) = cc ((L'.map fun b => (ln b.1, ln b.2)).take k) ++ [.int .i64 lw, .int .i64 lh]) := by show _ = _; rw [HZT0.out, HLW.out, HLH.out]
        have VP := Lib.hid (show Blk V pb _ _ by rw [hV]; exact UP.out)
        have VZ := Lib.hid (show World.ownsRow V _ _ _ _ _ _ by rw [hV]; exact UZ.out)
        have VR := Lib.hid (show Gr V _ _ _ _ _ by rw [hV]; exact UR.out)
        have VK := Lib.hid (show Blk V g _ _ by rw [hV]; exact UK.out)
        have VB : Hid (Below g w V) := by show Below _ _ _; rw [hV]; exact UB.out
        have vz : pb + 1 ≤ V.heap.size := by rw [hV]; exact uz
        clear hV hlw hlh UP UZ UR UK UB uz
        obtain ⟨⟨p0, p1⟩, q0, q1⟩ := VP.out.two
        by_cases hk0 : k = 0
        · have hkb : ((k : Int) == 0) = true := by rw [beq_iff_eq]; omega
          have HFR := Lib.hid (HFZ.out hk0)
          clear hk0
          obtain ⟨v1, w1, hrun1, hown1, hgrow1, _, hat1⟩ := run_append_own_at (P := Try.prog) (V.alloc (.cells #[.int .i64 lw, .int .i64 lh] 68)) (g + 1) 59 59 68 i0 _ 2 16 Try.underlying59 hi hz0 hz1 hz2 rfl (by decide) _ _ _ (VZ.out.alloc (.cells #[.int .i64 lw, .int .i64 lh] 68)) ⟨V.heap.size, 0, none⟩ 1 1 [.int .i64 lw, .int .i64 lh] rfl (cells_new' _ _ _ _ rfl _ rfl) (cc_one [(lw, lh)]) (by unfold maxLen; omega) (by omega) (by rw [size_alloc]; omega)
          have hpb1 : some pb ≠ (Value.slice Az k cz).ownBlock := fun e9 => by have := HXL.out pb e9.symm; omega
          have EZ := Lib.hid (show w1.ownsRow (g + 1) 68 2 v1 (k + 1) (cc ((L'.map fun b => (ln b.1, ln b.2)).take (k + 1))) by rw [HZT.out]; exact hown1)
          have EB := Lib.hid ((VP.out.alloc (.cells #[.int .i64 lw, .int .i64 lh] 68)).grown hgrow1 hpb1)
          have EK := Lib.hid ((VK.out.alloc (.cells #[.int .i64 lw, .int .i64 lh] 68)).grown hgrow1 (fun e9 => by have := (OZ.out.lt g e9.symm).1; omega))
          have ER := Lib.hid ((VR.out.alloc (.cells #[.int .i64 lw, .int .i64 lh] 68)).other (VZ.out.alloc (.cells #[.int .i64 lw, .int .i64 lh] 68)) hgrow1 (by decide) (by decide))
          have EL : Hid (Below g w w1) := Below.grown (VB.out.alloc (by omega) (.cells #[.int .i64 lw, .int .i64 lh] 68)) hgrow1 (by rw [size_alloc]; omega) (fun q hq => by have := (OZ.out.lt q hq).1; omega)
          have es : V.heap.size + 1 ≤ w1.heap.size := by have := hgrow1.size; rw [size_alloc] at this; exact this
          have hvb := VP.out.lt
          clear hown1 hgrow1 hat1 hpb1
          obtain ⟨A1, c1, rfl, hc1, hm1⟩ := own_slice EZ.out
          obtain ⟨v2, w2, hrun2, hown2, hgrow2, _, hat2⟩ := run_append_own_at (P := Try.prog) ((w1.alloc (.cells #[] 3)).alloc (.cells #[.slice (some ⟨w1.heap.size, 0, none⟩) 0 0] 36)) (g + 1) 96 96 36 i1 _ 1 24 Try.underlying96 ji jz0 jz1 jz2 rfl (by decide) _ _ _ ((ER.out.row.alloc (.cells #[] 3)).alloc (.cells #[.slice (some ⟨w1.heap.size, 0, none⟩) 0 0] 36)) ⟨w1.heap.size + 1, 0, none⟩ 1 1 [.slice (some ⟨w1.heap.size, 0, none⟩) 0 0] rfl (cells_new' _ _ _ _ rfl _ (by rw [size_alloc])) (fun u hu => by rw [List.mem_singleton.1 hu]; rfl) (by unfold maxLen; omega) (by omega) (by rw [size_alloc, size_alloc]; omega)
          have hnew : ((w1.alloc (.cells #[] 3)).alloc (.cells #[.slice (some ⟨w1.heap.size, 0, none⟩) 0 0] 36)).ownsRow (g + 1) 3 1 (.slice (some ⟨w1.heap.size, 0, none⟩) 0 0) 0 [] := (own_made w1 w1.heap.size rfl (by omega)).alloc _
          have FR := Lib.hid (((ER.out.alloc (.cells #[] 3)).alloc (.cells #[.slice (some ⟨w1.heap.size, 0, none⟩) 0 0] 36)).push (g := w1.heap.size) hown2 hgrow2 hnew rfl (fun j hj e9 => Nat.lt_irrefl _ ((ER.out.each j hj).lt _ e9).2))
          have hR2 := (ER.out.row.alloc (.cells #[] 3)).alloc (.cells #[.slice (some ⟨w1.heap.size, 0, none⟩) 0 0] 36)
          have FZ := Lib.hid (((EZ.out.alloc (.cells #[] 3)).alloc (.cells #[.slice (some ⟨w1.heap.size, 0, none⟩) 0 0] 36)).kept hgrow2 (own_ne ((EZ.out.alloc (.cells #[] 3)).alloc (.cells #[.slice (some ⟨w1.heap.size, 0, none⟩) 0 0] 36)) hR2 (by decide)))
          have FB := Lib.hid (((EB.out.alloc (.cells #[] 3)).alloc (.cells #[.slice (some ⟨w1.heap.size, 0, none⟩) 0 0] 36)).grown hgrow2 (own_blk' hR2 ((EB.out.alloc (.cells #[] 3)).alloc (.cells #[.slice (some ⟨w1.heap.size, 0, none⟩) 0 0] 36)) (by decide)))
          have FK := Lib.hid (((EK.out.alloc (.cells #[] 3)).alloc (.cells #[.slice (some ⟨w1.heap.size, 0, none⟩) 0 0] 36)).grown hgrow2 (own_blk' hR2 ((EK.out.alloc (.cells #[] 3)).alloc (.cells #[.slice (some ⟨w1.heap.size, 0, none⟩) 0 0] 36)) (by decide)))
          have FL : Hid (Below g w w2) := Below.grown ((EL.out.alloc (by omega) (.cells #[] 3)).alloc (by rw [size_alloc]; omega) (.cells #[.slice (some ⟨w1.heap.size, 0, none⟩) 0 0] 36)) hgrow2 (by rw [size_alloc, size_alloc]; omega) (fun q hq => by have := (ER.out.row.lt q hq).1; omega)
          have fs : w1.heap.size + 2 ≤ w2.heap.size := by have := hgrow2.size; rw [size_alloc, size_alloc] at this; exact this
          have hpq := EB.out.lt
          clear hown2 hgrow2 hat2 hnew hR2
          obtain ⟨M, hf⟩ : ∃ M, M = N + 1 := ⟨_, rfl⟩
          rw [← hf] at FR
          obtain ⟨G, cG, hGe, hGb, hGl, hGc, hGm⟩ := own_head FR.out.row (by omega)
          subst hGe
          have hfM : N < M := by omega
          have hcell := gr_cell FR.out hfM
          have hlastown := FR.out.each N hfM
          simp only [if_true] at hcell hlastown
          obtain ⟨A3, c3, hv3, hc3, hm3⟩ := own_slice hlastown
          have hln : ([] : List Int).length ≤ k := Nat.zero_le _
          obtain ⟨v3, w3, hrun3, hown3, hgrow3, _, hat3⟩ := run_append_own_at (P := Try.prog) (w2.alloc (.cells #[.int .i64 k] 3)) (g + 1) 36 36 3 i2 _ 1 8 Try.underlying36 li lz0 lz1 lz2 rfl (by decide) _ _ _ (hlastown.alloc (.cells #[.int .i64 k] 3)) ⟨w2.heap.size, 0, none⟩ 1 1 [.int .i64 k] rfl (cells_new' _ _ _ _ rfl _ rfl) (fun u hu => by rw [List.mem_singleton.1 hu]; rfl) (by unfold maxLen; omega) (by omega) (by rw [size_alloc]; omega)
          have hown3 : w3.ownsRow (g + 1) 3 1 v3 1 (iz [] ++ [.int .i64 k]) := hown3
          obtain ⟨A4, c4, hv4, _, _⟩ := own_slice hown3
          subst hv4
          have LR := Lib.hid ((FR.out.alloc (.cells #[.int .i64 k] 3)).last (x := (k : Int)) hfM (by simp only [if_true]; exact hown3) (by simp only [if_true]; exact hgrow3) (by simp only [if_true]; exact hat3))
          have hLo := hlastown.alloc (.cells #[.int .i64 k] 3)
          have LZ := Lib.hid ((FZ.out.alloc (.cells #[.int .i64 k] 3)).kept hgrow3 (own_ne (FZ.out.alloc (.cells #[.int .i64 k] 3)) hLo (by decide)))
          have LB := Lib.hid ((FB.out.alloc (.cells #[.int .i64 k] 3)).grown hgrow3 (own_blk' hLo (FB.out.alloc (.cells #[.int .i64 k] 3)) (by decide)))
          have LK := Lib.hid ((FK.out.alloc (.cells #[.int .i64 k] 3)).grown hgrow3 (own_blk' hLo (FK.out.alloc (.cells #[.int .i64 k] 3)) (by decide)))
          have hGrow := (FR.out.row.alloc (.cells #[.int .i64 k] 3)).kept hgrow3 (own_ne (FR.out.row.alloc (.cells #[.int .i64 k] 3)) hLo (by decide))
          have LL : Hid (Below g w w3) := Below.grown (FL.out.alloc (by omega) (.cells #[.int .i64 k] 3)) hgrow3 (by rw [size_alloc]; omega) (fun q hq => by have := (hlastown.lt q hq).1; omega)
          have ls : w2.heap.size + 1 ≤ w3.heap.size := by have := hgrow3.size; rw [size_alloc] at this; exact this
          have LZ9 := Lib.hid (LZ.out.kept (grown_set w3 ⟨G, N, none⟩ (.slice A4 1 c4)) (own_ne LZ.out hGrow (by decide)))
          have hGBne : pb ≠ G := fun e9 => own_blk' hGrow LB.out (by decide) (by rw [e9]; rfl)
          have hGKne : g ≠ G := fun e9 => own_blk' hGrow LK.out (by decide) (by rw [e9]; rfl)
          have hG1 := hGrow.frozenAt N
          obtain ⟨oldv, hG0⟩ : ∃ u, w3.cell? ⟨G, N, none⟩ = some u := ⟨_, (hGrow.cellAt N (by omega)).trans (List.getElem?_eq_getElem (by simp; omega))⟩
          clear hown3 hgrow3 hat3 hLo hGrow
          have hwr : IntKind.i64.wrap ((M : Int) - 1) = (N : Int) := by rw [IntKind.wrap_i64]; omega
          obtain ⟨⟨p0, p1⟩, q0, q1⟩ := EB.out.two
          obtain ⟨⟨p2, p3⟩, q2, q3⟩ := (LB.out.other G N (.slice A4 1 c4) hGBne).two
          go_wp2_with (go_at_call 17; refine (radd_any' _ _ _).mono ?_; rintro e9 w9 ⟨rfl, rfl⟩)
          clear hrun1 hrun2 hrun3
          go_roundw
          case rel =>
            subst hf
            refine ⟨k + 1, N + 1, (fun j => if j = N then .slice A4 1 c4 else (fun j => if j = N then .slice (some ⟨w1.heap.size, 0, none⟩) 0 0 else vs j) j), (fun j => if j = N + 1 then k + 1 else s j), by omega, by go_num, ?_, HPA.out.new HFR.out, ?_, ?_, LK.out.other G N (.slice A4 1 c4) hGKne, ?_, ?_⟩
            · rw [run_x, HFR.out, if_pos rfl, HLW.out]
            · refine LR.out.congr (fun j _ => rfl) (fun j hj => ?_)
              have h8 := HPA.out.xs_new j (by omega)
              simp only [if_true]
              exact h8
            · exact LZ9.out
            · exact below_setg LL.out G N (.slice A4 1 c4) (by omega) (by omega)
            · rw [setCell_size']; omega
          case measure => simp [intOf]; omega
        · have hk9 : (0 : Int) ≤ (k : Int) := by omega
          have hee0 : ¬ ee = 0 := by omega
          by_cases hq : qw < ad xx lw
          · have hkb : ((k : Int) == 0) = false := by rw [beq_eq_false_iff_ne]; omega
            have hcmp : decide (qw < ad xx lw) = true := decide_eq_true hq
            have HFR : Hid (fresh sp bg L' k = true) := by show _ = _; rw [HFP.out hk0, HXX.out, HLW.out, HBG.out, bgK1]; unfold bgW; rw [← HQW.out]; exact hcmp
            obtain ⟨v1, w1, hrun1, hown1, hgrow1, _, hat1⟩ := run_append_own_at (P := Try.prog) (V.alloc (.cells #[.int .i64 lw, .int .i64 lh] 68)) (g + 1) 59 59 68 i0 _ 2 16 Try.underlying59 hi hz0 hz1 hz2 rfl (by decide) _ _ _ (VZ.out.alloc (.cells #[.int .i64 lw, .int .i64 lh] 68)) ⟨V.heap.size, 0, none⟩ 1 1 [.int .i64 lw, .int .i64 lh] rfl (cells_new' _ _ _ _ rfl _ rfl) (cc_one [(lw, lh)]) (by unfold maxLen; omega) (by omega) (by rw [size_alloc]; omega)
            have hpb1 : some pb ≠ (Value.slice Az k cz).ownBlock := fun e9 => by have := HXL.out pb e9.symm; omega
            have EZ := Lib.hid (show w1.ownsRow (g + 1) 68 2 v1 (k + 1) (cc ((L'.map fun b => (ln b.1, ln b.2)).take (k + 1))) by rw [HZT.out]; exact hown1)
            have EB := Lib.hid ((VP.out.alloc (.cells #[.int .i64 lw, .int .i64 lh] 68)).grown hgrow1 hpb1)
            have EK := Lib.hid ((VK.out.alloc (.cells #[.int .i64 lw, .int .i64 lh] 68)).grown hgrow1 (fun e9 => by have := (OZ.out.lt g e9.symm).1; omega))
            have ER := Lib.hid ((VR.out.alloc (.cells #[.int .i64 lw, .int .i64 lh] 68)).other (VZ.out.alloc (.cells #[.int .i64 lw, .int .i64 lh] 68)) hgrow1 (by decide) (by decide))
            have EL : Hid (Below g w w1) := Below.grown (VB.out.alloc (by omega) (.cells #[.int .i64 lw, .int .i64 lh] 68)) hgrow1 (by rw [size_alloc]; omega) (fun q hq => by have := (OZ.out.lt q hq).1; omega)
            have es : V.heap.size + 1 ≤ w1.heap.size := by have := hgrow1.size; rw [size_alloc] at this; exact this
            have hvb := VP.out.lt
            clear hown1 hgrow1 hat1 hpb1
            obtain ⟨A1, c1, rfl, hc1, hm1⟩ := own_slice EZ.out
            obtain ⟨v2, w2, hrun2, hown2, hgrow2, _, hat2⟩ := run_append_own_at (P := Try.prog) ((w1.alloc (.cells #[] 3)).alloc (.cells #[.slice (some ⟨w1.heap.size, 0, none⟩) 0 0] 36)) (g + 1) 96 96 36 i1 _ 1 24 Try.underlying96 ji jz0 jz1 jz2 rfl (by decide) _ _ _ ((ER.out.row.alloc (.cells #[] 3)).alloc (.cells #[.slice (some ⟨w1.heap.size, 0, none⟩) 0 0] 36)) ⟨w1.heap.size + 1, 0, none⟩ 1 1 [.slice (some ⟨w1.heap.size, 0, none⟩) 0 0] rfl (cells_new' _ _ _ _ rfl _ (by rw [size_alloc])) (fun u hu => by rw [List.mem_singleton.1 hu]; rfl) (by unfold maxLen; omega) (by omega) (by rw [size_alloc, size_alloc]; omega)
            have hnew : ((w1.alloc (.cells #[] 3)).alloc (.cells #[.slice (some ⟨w1.heap.size, 0, none⟩) 0 0] 36)).ownsRow (g + 1) 3 1 (.slice (some ⟨w1.heap.size, 0, none⟩) 0 0) 0 [] := (own_made w1 w1.heap.size rfl (by omega)).alloc _
            have FR := Lib.hid (((ER.out.alloc (.cells #[] 3)).alloc (.cells #[.slice (some ⟨w1.heap.size, 0, none⟩) 0 0] 36)).push (g := w1.heap.size) hown2 hgrow2 hnew rfl (fun j hj e9 => Nat.lt_irrefl _ ((ER.out.each j hj).lt _ e9).2))
            have hR2 := (ER.out.row.alloc (.cells #[] 3)).alloc (.cells #[.slice (some ⟨w1.heap.size, 0, none⟩) 0 0] 36)
            have FZ := Lib.hid (((EZ.out.alloc (.cells #[] 3)).alloc (.cells #[.slice (some ⟨w1.heap.size, 0, none⟩) 0 0] 36)).kept hgrow2 (own_ne ((EZ.out.alloc (.cells #[] 3)).alloc (.cells #[.slice (some ⟨w1.heap.size, 0, none⟩) 0 0] 36)) hR2 (by decide)))
            have FB := Lib.hid (((EB.out.alloc (.cells #[] 3)).alloc (.cells #[.slice (some ⟨w1.heap.size, 0, none⟩) 0 0] 36)).grown hgrow2 (own_blk' hR2 ((EB.out.alloc (.cells #[] 3)).alloc (.cells #[.slice (some ⟨w1.heap.size, 0, none⟩) 0 0] 36)) (by decide)))
            have FK := Lib.hid (((EK.out.alloc (.cells #[] 3)).alloc (.cells #[.slice (some ⟨w1.heap.size, 0, none⟩) 0 0] 36)).grown hgrow2 (own_blk' hR2 ((EK.out.alloc (.cells #[] 3)).alloc (.cells #[.slice (some ⟨w1.heap.size, 0, none⟩) 0 0] 36)) (by decide)))
            have FL : Hid (Below g w w2) := Below.grown ((EL.out.alloc (by omega) (.cells #[] 3)).alloc (by rw [size_alloc]; omega) (.cells #[.slice (some ⟨w1.heap.size, 0, none⟩) 0 0] 36)) hgrow2 (by rw [size_alloc, size_alloc]; omega) (fun q hq => by have := (ER.out.row.lt q hq).1; omega)
            have fs : w1.heap.size + 2 ≤ w2.heap.size := by have := hgrow2.size; rw [size_alloc, size_alloc] at this; exact this
            have hpq := EB.out.lt
            clear hown2 hgrow2 hat2 hnew hR2
            obtain ⟨M, hf⟩ : ∃ M, M = N + 1 := ⟨_, rfl⟩
            rw [← hf] at FR
            obtain ⟨G, cG, hGe, hGb, hGl, hGc, hGm⟩ := own_head FR.out.row (by omega)
            subst hGe
            have hfM : N < M := by omega
            have hcell := gr_cell FR.out hfM
            have hlastown := FR.out.each N hfM
            simp only [if_true] at hcell hlastown
            obtain ⟨A3, c3, hv3, hc3, hm3⟩ := own_slice hlastown
            have hln : ([] : List Int).length ≤ k := Nat.zero_le _
            obtain ⟨v3, w3, hrun3, hown3, hgrow3, _, hat3⟩ := run_append_own_at (P := Try.prog) (w2.alloc (.cells #[.int .i64 k] 3)) (g + 1) 36 36 3 i2 _ 1 8 Try.underlying36 li lz0 lz1 lz2 rfl (by decide) _ _ _ (hlastown.alloc (.cells #[.int .i64 k] 3)) ⟨w2.heap.size, 0, none⟩ 1 1 [.int .i64 k] rfl (cells_new' _ _ _ _ rfl _ rfl) (fun u hu => by rw [List.mem_singleton.1 hu]; rfl) (by unfold maxLen; omega) (by omega) (by rw [size_alloc]; omega)
            have hown3 : w3.ownsRow (g + 1) 3 1 v3 1 (iz [] ++ [.int .i64 k]) := hown3
            obtain ⟨A4, c4, hv4, _, _⟩ := own_slice hown3
            subst hv4
            have LR := Lib.hid ((FR.out.alloc (.cells #[.int .i64 k] 3)).last (x := (k : Int)) hfM (by simp only [if_true]; exact hown3) (by simp only [if_true]; exact hgrow3) (by simp only [if_true]; exact hat3))
            have hLo := hlastown.alloc (.cells #[.int .i64 k] 3)
            have LZ := Lib.hid ((FZ.out.alloc (.cells #[.int .i64 k] 3)).kept hgrow3 (own_ne (FZ.out.alloc (.cells #[.int .i64 k] 3)) hLo (by decide)))
            have LB := Lib.hid ((FB.out.alloc (.cells #[.int .i64 k] 3)).grown hgrow3 (own_blk' hLo (FB.out.alloc (.cells #[.int .i64 k] 3)) (by decide)))
            have LK := Lib.hid ((FK.out.alloc (.cells #[.int .i64 k] 3)).grown hgrow3 (own_blk' hLo (FK.out.alloc (.cells #[.int .i64 k] 3)) (by decide)))
            have hGrow := (FR.out.row.alloc (.cells #[.int .i64 k] 3)).kept hgrow3 (own_ne (FR.out.row.alloc (.cells #[.int .i64 k] 3)) hLo (by decide))
            have LL : Hid (Below g w w3) := Below.grown (FL.out.alloc (by omega) (.cells #[.int .i64 k] 3)) hgrow3 (by rw [size_alloc]; omega) (fun q hq => by have := (hlastown.lt q hq).1; omega)
            have ls : w2.heap.size + 1 ≤ w3.heap.size := by have := hgrow3.size; rw [size_alloc] at this; exact this
            have LZ9 := Lib.hid (LZ.out.kept (grown_set w3 ⟨G, N, none⟩ (.slice A4 1 c4)) (own_ne LZ.out hGrow (by decide)))
            have hGBne : pb ≠ G := fun e9 => own_blk' hGrow LB.out (by decide) (by rw [e9]; rfl)
            have hGKne : g ≠ G := fun e9 => own_blk' hGrow LK.out (by decide) (by rw [e9]; rfl)
            have hG1 := hGrow.frozenAt N
            obtain ⟨oldv, hG0⟩ : ∃ u, w3.cell? ⟨G, N, none⟩ = some u := ⟨_, (hGrow.cellAt N (by omega)).trans (List.getElem?_eq_getElem (by simp; omega))⟩
            clear hown3 hgrow3 hat3 hLo hGrow
            have hwr : IntKind.i64.wrap ((M : Int) - 1) = (N : Int) := by rw [IntKind.wrap_i64]; omega
            obtain ⟨⟨p0, p1⟩, q0, q1⟩ := EB.out.two
            obtain ⟨⟨p2, p3⟩, q2, q3⟩ := (LB.out.other G N (.slice A4 1 c4) hGBne).two
            go_wp2_with (go_at_call 17; refine (radd_any' _ _ _).mono ?_; rintro e9 w9 ⟨rfl, rfl⟩)
            clear hrun1 hrun2 hrun3
            go_roundw
            case rel =>
              subst hf
              refine ⟨k + 1, N + 1, (fun j => if j = N then .slice A4 1 c4 else (fun j => if j = N then .slice (some ⟨w1.heap.size, 0, none⟩) 0 0 else vs j) j), (fun j => if j = N + 1 then k + 1 else s j), by omega, by go_num, ?_, HPA.out.new HFR.out, ?_, ?_, LK.out.other G N (.slice A4 1 c4) hGKne, ?_, ?_⟩
              · rw [run_x, HFR.out, if_pos rfl, HLW.out]
              · refine LR.out.congr (fun j _ => rfl) (fun j hj => ?_)
                have h8 := HPA.out.xs_new j (by omega)
                simp only [if_true]
                exact h8
              · exact LZ9.out
              · exact below_setg LL.out G N (.slice A4 1 c4) (by omega) (by omega)
              · rw [setCell_size']; omega
            case measure => simp [intOf]; omega
          · have hkb : ((k : Int) == 0) = false := by rw [beq_eq_false_iff_ne]; omega
            have hcmp : decide (qw < ad xx lw) = false := decide_eq_false hq
            have HFR : Hid (fresh sp bg L' k = false) := by show _ = _; rw [HFP.out hk0, HXX.out, HLW.out, HBG.out, bgK1]; unfold bgW; rw [← HQW.out]; exact hcmp
            obtain ⟨v1, w1, hrun1, hown1, hgrow1, _, hat1⟩ := run_append_own_at (P := Try.prog) (V.alloc (.cells #[.int .i64 lw, .int .i64 lh] 68)) (g + 1) 59 59 68 i0 _ 2 16 Try.underlying59 hi hz0 hz1 hz2 rfl (by decide) _ _ _ (VZ.out.alloc (.cells #[.int .i64 lw, .int .i64 lh] 68)) ⟨V.heap.size, 0, none⟩ 1 1 [.int .i64 lw, .int .i64 lh] rfl (cells_new' _ _ _ _ rfl _ rfl) (cc_one [(lw, lh)]) (by unfold maxLen; omega) (by omega) (by rw [size_alloc]; omega)
            have hpb1 : some pb ≠ (Value.slice Az k cz).ownBlock := fun e9 => by have := HXL.out pb e9.symm; omega
            have EZ := Lib.hid (show w1.ownsRow (g + 1) 68 2 v1 (k + 1) (cc ((L'.map fun b => (ln b.1, ln b.2)).take (k + 1))) by rw [HZT.out]; exact hown1)
            have EB := Lib.hid ((VP.out.alloc (.cells #[.int .i64 lw, .int .i64 lh] 68)).grown hgrow1 hpb1)
            have EK := Lib.hid ((VK.out.alloc (.cells #[.int .i64 lw, .int .i64 lh] 68)).grown hgrow1 (fun e9 => by have := (OZ.out.lt g e9.symm).1; omega))
            have ER := Lib.hid ((VR.out.alloc (.cells #[.int .i64 lw, .int .i64 lh] 68)).other (VZ.out.alloc (.cells #[.int .i64 lw, .int .i64 lh] 68)) hgrow1 (by decide) (by decide))
            have EL : Hid (Below g w w1) := Below.grown (VB.out.alloc (by omega) (.cells #[.int .i64 lw, .int .i64 lh] 68)) hgrow1 (by rw [size_alloc]; omega) (fun q hq => by have := (OZ.out.lt q hq).1; omega)
            have es : V.heap.size + 1 ≤ w1.heap.size := by have := hgrow1.size; rw [size_alloc] at this; exact this
            have hvb := VP.out.lt
            clear hown1 hgrow1 hat1 hpb1
            obtain ⟨A1, c1, rfl, hc1, hm1⟩ := own_slice EZ.out
            obtain ⟨f, hf⟩ : ∃ f, N = f + 1 := by have := HPA.out.some (by omega); exact ⟨N - 1, by omega⟩
            have FR := ER
            have FZ := EZ
            have FB := EB
            have FK := EK
            have FL := EL
            have fs : w1.heap.size ≤ w1.heap.size := Nat.le_refl _
            have hpq := EB.out.lt
            obtain ⟨G, cG, hGe, hGb, hGl, hGc, hGm⟩ := own_head FR.out.row (by omega)
            subst hGe
            have hfM : f < N := by omega
            have hcell := gr_cell FR.out hfM
            have hlastown := FR.out.each f hfM
            obtain ⟨A3, c3, hv3, hc3, hm3⟩ := own_slice hlastown
            have hln : ((nums (s f) (s (f + 1))) : List Int).length ≤ k := by rw [nums_len]; have := HPA.out.le (f + 1) (by omega); omega
            rw [hv3] at hcell
            obtain ⟨v3, w3, hrun3, hown3, hgrow3, _, hat3⟩ := run_append_own_at (P := Try.prog) (w1.alloc (.cells #[.int .i64 k] 3)) (g + 1) 36 36 3 i2 _ 1 8 Try.underlying36 li lz0 lz1 lz2 rfl (by decide) _ _ _ (hlastown.alloc (.cells #[.int .i64 k] 3)) ⟨w1.heap.size, 0, none⟩ 1 1 [.int .i64 k] rfl (cells_new' _ _ _ _ rfl _ rfl) (fun u hu => by rw [List.mem_singleton.1 hu]; rfl) (by unfold maxLen; omega) (by omega) (by rw [size_alloc]; omega)
            obtain ⟨A4, c4, hv4, _, _⟩ := own_slice hown3
            subst hv4
            have hrun3' := hrun3
            rw [hv3] at hrun3'
            have LR := Lib.hid ((FR.out.alloc (.cells #[.int .i64 k] 3)).last (x := (k : Int)) hfM hown3 hgrow3 hat3)
            have hLo := hlastown.alloc (.cells #[.int .i64 k] 3)
            have LZ := Lib.hid ((FZ.out.alloc (.cells #[.int .i64 k] 3)).kept hgrow3 (own_ne (FZ.out.alloc (.cells #[.int .i64 k] 3)) hLo (by decide)))
            have LB := Lib.hid ((FB.out.alloc (.cells #[.int .i64 k] 3)).grown hgrow3 (own_blk' hLo (FB.out.alloc (.cells #[.int .i64 k] 3)) (by decide)))
            have LK := Lib.hid ((FK.out.alloc (.cells #[.int .i64 k] 3)).grown hgrow3 (own_blk' hLo (FK.out.alloc (.cells #[.int .i64 k] 3)) (by decide)))
            have hGrow := (FR.out.row.alloc (.cells #[.int .i64 k] 3)).kept hgrow3 (own_ne (FR.out.row.alloc (.cells #[.int .i64 k] 3)) hLo (by decide))
            have LL : Hid (Below g w w3) := Below.grown (FL.out.alloc (by omega) (.cells #[.int .i64 k] 3)) hgrow3 (by rw [size_alloc]; omega) (fun q hq => by have := (hlastown.lt q hq).1; omega)
            have ls : w1.heap.size + 1 ≤ w3.heap.size := by have := hgrow3.size; rw [size_alloc] at this; exact this
            have LZ9 := Lib.hid (LZ.out.kept (grown_set w3 ⟨G, f, none⟩ (.slice A4 ((nums (s f) (s (f + 1))).length + 1) c4)) (own_ne LZ.out hGrow (by decide)))
            have hGBne : pb ≠ G := fun e9 => own_blk' hGrow LB.out (by decide) (by rw [e9]; rfl)
            have hGKne : g ≠ G := fun e9 => own_blk' hGrow LK.out (by decide) (by rw [e9]; rfl)
            have hG1 := hGrow.frozenAt f
            obtain ⟨oldv, hG0⟩ : ∃ u, w3.cell? ⟨G, f, none⟩ = some u := ⟨_, (hGrow.cellAt f (by omega)).trans (List.getElem?_eq_getElem (by simp; omega))⟩
            clear hown3 hgrow3 hat3 hLo hGrow
            have hwr : IntKind.i64.wrap ((N : Int) - 1) = (f : Int) := by rw [IntKind.wrap_i64]; omega
            obtain ⟨⟨p0, p1⟩, q0, q1⟩ := EB.out.two
            obtain ⟨⟨p2, p3⟩, q2, q3⟩ := (LB.out.other G f (.slice A4 ((nums (s f) (s (f + 1))).length + 1) c4) hGBne).two
            clear hrun3
            go_wp2_with (go_at_call 17; refine (radd_any' _ _ _).mono ?_; rintro e9 w9 ⟨rfl, rfl⟩)
            clear hrun1 hrun3'
            go_roundw
            case rel =>
              subst hf
              refine ⟨k + 1, f + 1, (fun j => if j = f then .slice A4 ((nums (s f) (s (f + 1))).length + 1) c4 else vs j), (fun j => if j = f + 1 then k + 1 else s j), by omega, by go_num, ?_, ?_, ?_, ?_, LK.out.other G f (.slice A4 ((nums (s f) (s (f + 1))).length + 1) c4) hGKne, ?_, ?_⟩
              · rw [run_x, HFR.out, if_neg (by simp), HLW.out, HXX.out]
              · exact HPA.out.more HFR.out
              · refine LR.out.congr (fun j _ => rfl) (fun j hj => ?_)
                exact HPA.out.xs_more j (by omega)
              · exact LZ9.out
              · exact below_setg LL.out G f (.slice A4 ((nums (s f) (s (f + 1))).length + 1) c4) (by omega) (by omega)
              · rw [setCell_size']; omega
            case measure => simp [intOf]; omega
      · obtain ⟨⟨p0, p1⟩, q0, q1⟩ := UP.out.two
        go_upto_region 13 with fail
        clear p0 p1 q0 q1
        obtain ⟨lh, hlh⟩ : ∃ lh, lh = ln bh := ⟨_, rfl⟩
        rw [← hlh] at UP
        obtain ⟨V, hV⟩ : ∃ V, V = (U.setCell ⟨pb, 0, none⟩ (.int .i64 qw)) := ⟨_, rfl⟩
        rw [← hV]
        have HLW : Hid (ln (L'.getD k (0, 0)).1 = qw) := by show _ = _; rw [HA2.out rfl, HQW.out]
        have HLH : Hid (ln (L'.getD k (0, 0)).2 = lh) := by show _ = _; rw [HA2.out rfl, hlh]
        have HZT : Hid (cc ((L'.map fun b => (ln b.1, ln b.2)).take (k + 1)) = cc ((L'.map fun b => (ln b.1, ln b.2)).take k) ++ [.int .i64 qw, .int .i64 lh]) := by show _ = _; rw [HZT0.out, HLW.out, HLH.out]
        have VP := Lib.hid (show Blk V pb _ #[.int .i64 qw, .int .i64 lh] by rw [hV]; exact UP.out.set 0 _)
        have VZ := Lib.hid (show World.ownsRow V _ _ _ _ _ _ by rw [hV]; exact UZ.out.kept (grown_set U ⟨pb, 0, none⟩ _) (.inr (fun e9 => by have := HXL.out pb e9; omega)))
        have VR := Lib.hid (show Gr V _ _ _ _ _ by rw [hV]; exact UR.out.kept (grown_set U ⟨pb, 0, none⟩ _) (own_blk UR.out.row UP.out (by decide)) (fun j hj => own_blk (UR.out.each j hj) UP.out (by decide)))
        have VK := Lib.hid (show Blk V g _ _ by rw [hV]; exact UK.out.other pb 0 _ (by omega))
        have VB : Hid (Below g w V) := by show Below _ _ _; rw [hV]; exact below_setg UB.out pb 0 _ (by omega) (by omega)
        have vz : pb + 1 ≤ V.heap.size := by rw [hV, setCell_size']; exact uz
        clear hV hlh UP UZ UR UK UB uz
        obtain ⟨⟨p0, p1⟩, q0, q1⟩ := VP.out.two
        by_cases hk0 : k = 0
        · have hkb : ((k : Int) == 0) = true := by rw [beq_iff_eq]; omega
          have HFR := Lib.hid (HFZ.out hk0)
          clear hk0
          obtain ⟨v1, w1, hrun1, hown1, hgrow1, _, hat1⟩ := run_append_own_at (P := Try.prog) (V.alloc (.cells #[.int .i64 qw, .int .i64 lh] 68)) (g + 1) 59 59 68 i0 _ 2 16 Try.underlying59 hi hz0 hz1 hz2 rfl (by decide) _ _ _ (VZ.out.alloc (.cells #[.int .i64 qw, .int .i64 lh] 68)) ⟨V.heap.size, 0, none⟩ 1 1 [.int .i64 qw, .int .i64 lh] rfl (cells_new' _ _ _ _ rfl _ rfl) (cc_one [(qw, lh)]) (by unfold maxLen; omega) (by omega) (by rw [size_alloc]; omega)
          have hpb1 : some pb ≠ (Value.slice Az k cz).ownBlock := fun e9 => by have := HXL.out pb e9.symm; omega
          have EZ := Lib.hid (show w1.ownsRow (g + 1) 68 2 v1 (k + 1) (cc ((L'.map fun b => (ln b.1, ln b.2)).take (k + 1))) by rw [HZT.out]; exact hown1)
          have EB := Lib.hid ((VP.out.alloc (.cells #[.int .i64 qw, .int .i64 lh] 68)).grown hgrow1 hpb1)
          have EK := Lib.hid ((VK.out.alloc (.cells #[.int .i64 qw, .int .i64 lh] 68)).grown hgrow1 (fun e9 => by have := (OZ.out.lt g e9.symm).1; omega))
          have ER := Lib.hid ((VR.out.alloc (.cells #[.int .i64 qw, .int .i64 lh] 68)).other (VZ.out.alloc (.cells #[.int .i64 qw, .int .i64 lh] 68)) hgrow1 (by decide) (by decide))
          have EL : Hid (Below g w w1) := Below.grown (VB.out.alloc (by omega) (.cells #[.int .i64 qw, .int .i64 lh] 68)) hgrow1 (by rw [size_alloc]; omega) (fun q hq => by have := (OZ.out.lt q hq).1; omega)
          have es : V.heap.size + 1 ≤ w1.heap.size := by have := hgrow1.size; rw [size_alloc] at this; exact this
          have hvb := VP.out.lt
          clear hown1 hgrow1 hat1 hpb1
          obtain ⟨A1, c1, rfl, hc1, hm1⟩ := own_slice EZ.out
          obtain ⟨v2, w2, hrun2, hown2, hgrow2, _, hat2⟩ := run_append_own_at (P := Try.prog) ((w1.alloc (.cells #[] 3)).alloc (.cells #[.slice (some ⟨w1.heap.size, 0, none⟩) 0 0] 36)) (g + 1) 96 96 36 i1 _ 1 24 Try.underlying96 ji jz0 jz1 jz2 rfl (by decide) _ _ _ ((ER.out.row.alloc (.cells #[] 3)).alloc (.cells #[.slice (some ⟨w1.heap.size, 0, none⟩) 0 0] 36)) ⟨w1.heap.size + 1, 0, none⟩ 1 1 [.slice (some ⟨w1.heap.size, 0, none⟩) 0 0] rfl (cells_new' _ _ _ _ rfl _ (by rw [size_alloc])) (fun u hu => by rw [List.mem_singleton.1 hu]; rfl) (by unfold maxLen; omega) (by omega) (by rw [size_alloc, size_alloc]; omega)
          have hnew : ((w1.alloc (.cells #[] 3)).alloc (.cells #[.slice (some ⟨w1.heap.size, 0, none⟩) 0 0] 36)).ownsRow (g + 1) 3 1 (.slice (some ⟨w1.heap.size, 0, none⟩) 0 0) 0 [] := (own_made w1 w1.heap.size rfl (by omega)).alloc _
          have FR := Lib.hid (((ER.out.alloc (.cells #[] 3)).alloc (.cells #[.slice (some ⟨w1.heap.size, 0, none⟩) 0 0] 36)).push (g := w1.heap.size) hown2 hgrow2 hnew rfl (fun j hj e9 => Nat.lt_irrefl _ ((ER.out.each j hj).lt _ e9).2))
          have hR2 := (ER.out.row.alloc (.cells #[] 3)).alloc (.cells #[.slice (some ⟨w1.heap.size, 0, none⟩) 0 0] 36)
          have FZ := Lib.hid (((EZ.out.alloc (.cells #[] 3)).alloc (.cells #[.slice (some ⟨w1.heap.size, 0, none⟩) 0 0] 36)).kept hgrow2 (own_ne ((EZ.out.alloc (.cells #[] 3)).alloc (.cells #[.slice (some ⟨w1.heap.size, 0, none⟩) 0 0] 36)) hR2 (by decide)))
          have FB := Lib.hid (((EB.out.alloc (.cells #[] 3)).alloc (.cells #[.slice (some ⟨w1.heap.size, 0, none⟩) 0 0] 36)).grown hgrow2 (own_blk' hR2 ((EB.out.alloc (.cells #[] 3)).alloc (.cells #[.slice (some ⟨w1.heap.size, 0, none⟩) 0 0] 36)) (by decide)))
          have FK := Lib.hid (((EK.out.alloc (.cells #[] 3)).alloc (.cells #[.slice (some ⟨w1.heap.size, 0, none⟩) 0 0] 36)).grown hgrow2 (own_blk' hR2 ((EK.out.alloc (.cells #[] 3)).alloc (.cells #[.slice (some ⟨w1.heap.size, 0, none⟩) 0 0] 36)) (by decide)))
          have FL : Hid (Below g w w2) := Below.grown ((EL.out.alloc (by omega) (.cells #[] 3)).alloc (by rw [size_alloc]; omega) (.cells #[.slice (some ⟨w1.heap.size, 0, none⟩) 0 0] 36)) hgrow2 (by rw [size_alloc, size_alloc]; omega) (fun q hq => by have := (ER.out.row.lt q hq).1; omega)
          have fs : w1.heap.size + 2 ≤ w2.heap.size := by have := hgrow2.size; rw [size_alloc, size_alloc] at this; exact this
          have hpq := EB.out.lt
          clear hown2 hgrow2 hat2 hnew hR2
          obtain ⟨M, hf⟩ : ∃ M, M = N + 1 := ⟨_, rfl⟩
          rw [← hf] at FR
          obtain ⟨G, cG, hGe, hGb, hGl, hGc, hGm⟩ := own_head FR.out.row (by omega)
          subst hGe
          have hfM : N < M := by omega
          have hcell := gr_cell FR.out hfM
          have hlastown := FR.out.each N hfM
          simp only [if_true] at hcell hlastown
          obtain ⟨A3, c3, hv3, hc3, hm3⟩ := own_slice hlastown
          have hln : ([] : List Int).length ≤ k := Nat.zero_le _
          obtain ⟨v3, w3, hrun3, hown3, hgrow3, _, hat3⟩ := run_append_own_at (P := Try.prog) (w2.alloc (.cells #[.int .i64 k] 3)) (g + 1) 36 36 3 i2 _ 1 8 Try.underlying36 li lz0 lz1 lz2 rfl (by decide) _ _ _ (hlastown.alloc (.cells #[.int .i64 k] 3)) ⟨w2.heap.size, 0, none⟩ 1 1 [.int .i64 k] rfl (cells_new' _ _ _ _ rfl _ rfl) (fun u hu => by rw [List.mem_singleton.1 hu]; rfl) (by unfold maxLen; omega) (by omega) (by rw [size_alloc]; omega)
          have hown3 : w3.ownsRow (g + 1) 3 1 v3 1 (iz [] ++ [.int .i64 k]) := hown3
          obtain ⟨A4, c4, hv4, _, _⟩ := own_slice hown3
          subst hv4
          have LR := Lib.hid ((FR.out.alloc (.cells #[.int .i64 k] 3)).last (x := (k : Int)) hfM (by simp only [if_true]; exact hown3) (by simp only [if_true]; exact hgrow3) (by simp only [if_true]; exact hat3))
          have hLo := hlastown.alloc (.cells #[.int .i64 k] 3)
          have LZ := Lib.hid ((FZ.out.alloc (.cells #[.int .i64 k] 3)).kept hgrow3 (own_ne (FZ.out.alloc (.cells #[.int .i64 k] 3)) hLo (by decide)))
          have LB := Lib.hid ((FB.out.alloc (.cells #[.int .i64 k] 3)).grown hgrow3 (own_blk' hLo (FB.out.alloc (.cells #[.int .i64 k] 3)) (by decide)))
          have LK := Lib.hid ((FK.out.alloc (.cells #[.int .i64 k] 3)).grown hgrow3 (own_blk' hLo (FK.out.alloc (.cells #[.int .i64 k] 3)) (by decide)))
          have hGrow := (FR.out.row.alloc (.cells #[.int .i64 k] 3)).kept hgrow3 (own_ne (FR.out.row.alloc (.cells #[.int .i64 k] 3)) hLo (by decide))
          have LL : Hid (Below g w w3) := Below.grown (FL.out.alloc (by omega) (.cells #[.int .i64 k] 3)) hgrow3 (by rw [size_alloc]; omega) (fun q hq => by have := (hlastown.lt q hq).1; omega)
          have ls : w2.heap.size + 1 ≤ w3.heap.size := by have := hgrow3.size; rw [size_alloc] at this; exact this
          have LZ9 := Lib.hid (LZ.out.kept (grown_set w3 ⟨G, N, none⟩ (.slice A4 1 c4)) (own_ne LZ.out hGrow (by decide)))
          have hGBne : pb ≠ G := fun e9 => own_blk' hGrow LB.out (by decide) (by rw [e9]; rfl)
          have hGKne : g ≠ G := fun e9 => own_blk' hGrow LK.out (by decide) (by rw [e9]; rfl)
          have hG1 := hGrow.frozenAt N
          obtain ⟨oldv, hG0⟩ : ∃ u, w3.cell? ⟨G, N, none⟩ = some u := ⟨_, (hGrow.cellAt N (by omega)).trans (List.getElem?_eq_getElem (by simp; omega))⟩
          clear hown3 hgrow3 hat3 hLo hGrow
          have hwr : IntKind.i64.wrap ((M : Int) - 1) = (N : Int) := by rw [IntKind.wrap_i64]; omega
          obtain ⟨⟨p0, p1⟩, q0, q1⟩ := EB.out.two
          obtain ⟨⟨p2, p3⟩, q2, q3⟩ := (LB.out.other G N (.slice A4 1 c4) hGBne).two
          go_wp2_with (go_at_call 17; refine (radd_any' _ _ _).mono ?_; rintro e9 w9 ⟨rfl, rfl⟩)
          clear hrun1 hrun2 hrun3
          go_roundw
          case rel =>
            subst hf
            refine ⟨k + 1, N + 1, (fun j => if j = N then .slice A4 1 c4 else (fun j => if j = N then .slice (some ⟨w1.heap.size, 0, none⟩) 0 0 else vs j) j), (fun j => if j = N + 1 then k + 1 else s j), by omega, by go_num, ?_, HPA.out.new HFR.out, ?_, ?_, LK.out.other G N (.slice A4 1 c4) hGKne, ?_, ?_⟩
            · rw [run_x, HFR.out, if_pos rfl, HLW.out]
            · refine LR.out.congr (fun j _ => rfl) (fun j hj => ?_)
              have h8 := HPA.out.xs_new j (by omega)
              simp only [if_true]
              exact h8
            · exact LZ9.out
            · exact below_setg LL.out G N (.slice A4 1 c4) (by omega) (by omega)
            · rw [setCell_size']; omega
          case measure => simp [intOf]; omega
        · have hk9 : (0 : Int) ≤ (k : Int) := by omega
          have hee0 : ¬ ee = 0 := by omega
          by_cases hq : (k : Int) % ee = 0
          · have hkb : ((k : Int) == 0) = false := by rw [beq_eq_false_iff_ne]; omega
            have hcmp : ((k : Int) % ee == 0) = true := by rw [beq_iff_eq]; exact hq
            have HFR : Hid (fresh sp bg L' k = true) := by show _ = _; rw [HFP.out hk0, HXX.out, HLW.out, HBG.out, bgK2 _ _ (by omega) (by omega)]; unfold bgG; rw [← HEE.out]; exact hcmp
            obtain ⟨v1, w1, hrun1, hown1, hgrow1, _, hat1⟩ := run_append_own_at (P := Try.prog) (V.alloc (.cells #[.int .i64 qw, .int .i64 lh] 68)) (g + 1) 59 59 68 i0 _ 2 16 Try.underlying59 hi hz0 hz1 hz2 rfl (by decide) _ _ _ (VZ.out.alloc (.cells #[.int .i64 qw, .int .i64 lh] 68)) ⟨V.heap.size, 0, none⟩ 1 1 [.int .i64 qw, .int .i64 lh] rfl (cells_new' _ _ _ _ rfl _ rfl) (cc_one [(qw, lh)]) (by unfold maxLen; omega) (by omega) (by rw [size_alloc]; omega)
            have hpb1 : some pb ≠ (Value.slice Az k cz).ownBlock := fun e9 => by have := HXL.out pb e9.symm; omega
            have EZ := Lib.hid (show w1.ownsRow (g + 1) 68 2 v1 (k + 1) (cc ((L'.map fun b => (ln b.1, ln b.2)).take (k + 1))) by rw [HZT.out]; exact hown1)
            have EB := Lib.hid ((VP.out.alloc (.cells #[.int .i64 qw, .int .i64 lh] 68)).grown hgrow1 hpb1)
            have EK := Lib.hid ((VK.out.alloc (.cells #[.int .i64 qw, .int .i64 lh] 68)).grown hgrow1 (fun e9 => by have := (OZ.out.lt g e9.symm).1; omega))
            have ER := Lib.hid ((VR.out.alloc (.cells #[.int .i64 qw, .int .i64 lh] 68)).other (VZ.out.alloc (.cells #[.int .i64 qw, .int .i64 lh] 68)) hgrow1 (by decide) (by decide))
            have EL : Hid (Below g w w1) := Below.grown (VB.out.alloc (by omega) (.cells #[.int .i64 qw, .int .i64 lh] 68)) hgrow1 (by rw [size_alloc]; omega) (fun q hq => by have := (OZ.out.lt q hq).1; omega)
            have es : V.heap.size + 1 ≤ w1.heap.size := by have := hgrow1.size; rw [size_alloc] at this; exact this
            have hvb := VP.out.lt
            clear hown1 hgrow1 hat1 hpb1
            obtain ⟨A1, c1, rfl, hc1, hm1⟩ := own_slice EZ.out
            obtain ⟨v2, w2, hrun2, hown2, hgrow2, _, hat2⟩ := run_append_own_at (P := Try.prog) ((w1.alloc (.cells #[] 3)).alloc (.cells #[.slice (some ⟨w1.heap.size, 0, none⟩) 0 0] 36)) (g + 1) 96 96 36 i1 _ 1 24 Try.underlying96 ji jz0 jz1 jz2 rfl (by decide) _ _ _ ((ER.out.row.alloc (.cells #[] 3)).alloc (.cells #[.slice (some ⟨w1.heap.size, 0, none⟩) 0 0] 36)) ⟨w1.heap.size + 1, 0, none⟩ 1 1 [.slice (some ⟨w1.heap.size, 0, none⟩) 0 0] rfl (cells_new' _ _ _ _ rfl _ (by rw [size_alloc])) (fun u hu => by rw [List.mem_singleton.1 hu]; rfl) (by unfold maxLen; omega) (by omega) (by rw [size_alloc, size_alloc]; omega)
            have hnew : ((w1.alloc (.cells #[] 3)).alloc (.cells #[.slice (some ⟨w1.heap.size, 0, none⟩) 0 0] 36)).ownsRow (g + 1) 3 1 (.slice (some ⟨w1.heap.size, 0, none⟩) 0 0) 0 [] := (own_made w1 w1.heap.size rfl (by omega)).alloc _
            have FR := Lib.hid (((ER.out.alloc (.cells #[] 3)).alloc (.cells #[.slice (some ⟨w1.heap.size, 0, none⟩) 0 0] 36)).push (g := w1.heap.size) hown2 hgrow2 hnew rfl (fun j hj e9 => Nat.lt_irrefl _ ((ER.out.each j hj).lt _ e9).2))
            have hR2 := (ER.out.row.alloc (.cells #[] 3)).alloc (.cells #[.slice (some ⟨w1.heap.size, 0, none⟩) 0 0] 36)
            have FZ := Lib.hid (((EZ.out.alloc (.cells #[] 3)).alloc (.cells #[.slice (some ⟨w1.heap.size, 0, none⟩) 0 0] 36)).kept hgrow2 (own_ne ((EZ.out.alloc (.cells #[] 3)).alloc (.cells #[.slice (some ⟨w1.heap.size, 0, none⟩) 0 0] 36)) hR2 (by decide)))
            have FB := Lib.hid (((EB.out.alloc (.cells #[] 3)).alloc (.cells #[.slice (some ⟨w1.heap.size, 0, none⟩) 0 0] 36)).grown hgrow2 (own_blk' hR2 ((EB.out.alloc (.cells #[] 3)).alloc (.cells #[.slice (some ⟨w1.heap.size, 0, none⟩) 0 0] 36)) (by decide)))
            have FK := Lib.hid (((EK.out.alloc (.cells #[] 3)).alloc (.cells #[.slice (some ⟨w1.heap.size, 0, none⟩) 0 0] 36)).grown hgrow2 (own_blk' hR2 ((EK.out.alloc (.cells #[] 3)).alloc (.cells #[.slice (some ⟨w1.heap.size, 0, none⟩) 0 0] 36)) (by decide)))
            have FL : Hid (Below g w w2) := Below.grown ((EL.out.alloc (by omega) (.cells #[] 3)).alloc (by rw [size_alloc]; omega) (.cells #[.slice (some ⟨w1.heap.size, 0, none⟩) 0 0] 36)) hgrow2 (by rw [size_alloc, size_alloc]; omega) (fun q hq => by have := (ER.out.row.lt q hq).1; omega)
            have fs : w1.heap.size + 2 ≤ w2.heap.size := by have := hgrow2.size; rw [size_alloc, size_alloc] at this; exact this
            have hpq := EB.out.lt
            clear hown2 hgrow2 hat2 hnew hR2
            obtain ⟨M, hf⟩ : ∃ M, M = N + 1 := ⟨_, rfl⟩
            rw [← hf] at FR
            obtain ⟨G, cG, hGe, hGb, hGl, hGc, hGm⟩ := own_head FR.out.row (by omega)
            subst hGe
            have hfM : N < M := by omega
            have hcell := gr_cell FR.out hfM
            have hlastown := FR.out.each N hfM
            simp only [if_true] at hcell hlastown
            obtain ⟨A3, c3, hv3, hc3, hm3⟩ := own_slice hlastown
            have hln : ([] : List Int).length ≤ k := Nat.zero_le _
            obtain ⟨v3, w3, hrun3, hown3, hgrow3, _, hat3⟩ := run_append_own_at (P := Try.prog) (w2.alloc (.cells #[.int .i64 k] 3)) (g + 1) 36 36 3 i2 _ 1 8 Try.underlying36 li lz0 lz1 lz2 rfl (by decide) _ _ _ (hlastown.alloc (.cells #[.int .i64 k] 3)) ⟨w2.heap.size, 0, none⟩ 1 1 [.int .i64 k] rfl (cells_new' _ _ _ _ rfl _ rfl) (fun u hu => by rw [List.mem_singleton.1 hu]; rfl) (by unfold maxLen; omega) (by omega) (by rw [size_alloc]; omega)
            have hown3 : w3.ownsRow (g + 1) 3 1 v3 1 (iz [] ++ [.int .i64 k]) := hown3
            obtain ⟨A4, c4, hv4, _, _⟩ := own_slice hown3
            subst hv4
            have LR := Lib.hid ((FR.out.alloc (.cells #[.int .i64 k] 3)).last (x := (k : Int)) hfM (by simp only [if_true]; exact hown3) (by simp only [if_true]; exact hgrow3) (by simp only [if_true]; exact hat3))
            have hLo := hlastown.alloc (.cells #[.int .i64 k] 3)
            have LZ := Lib.hid ((FZ.out.alloc (.cells #[.int .i64 k] 3)).kept hgrow3 (own_ne (FZ.out.alloc (.cells #[.int .i64 k] 3)) hLo (by decide)))
            have LB := Lib.hid ((FB.out.alloc (.cells #[.int .i64 k] 3)).grown hgrow3 (own_blk' hLo (FB.out.alloc (.cells #[.int .i64 k] 3)) (by decide)))
            have LK := Lib.hid ((FK.out.alloc (.cells #[.int .i64 k] 3)).grown hgrow3 (own_blk' hLo (FK.out.alloc (.cells #[.int .i64 k] 3)) (by decide)))
            have hGrow := (FR.out.row.alloc (.cells #[.int .i64 k] 3)).kept hgrow3 (own_ne (FR.out.row.alloc (.cells #[.int .i64 k] 3)) hLo (by decide))
            have LL : Hid (Below g w w3) := Below.grown (FL.out.alloc (by omega) (.cells #[.int .i64 k] 3)) hgrow3 (by rw [size_alloc]; omega) (fun q hq => by have := (hlastown.lt q hq).1; omega)
            have ls : w2.heap.size + 1 ≤ w3.heap.size := by have := hgrow3.size; rw [size_alloc] at this; exact this
            have LZ9 := Lib.hid (LZ.out.kept (grown_set w3 ⟨G, N, none⟩ (.slice A4 1 c4)) (own_ne LZ.out hGrow (by decide)))
            have hGBne : pb ≠ G := fun e9 => own_blk' hGrow LB.out (by decide) (by rw [e9]; rfl)
            have hGKne : g ≠ G := fun e9 => own_blk' hGrow LK.out (by decide) (by rw [e9]; rfl)
            have hG1 := hGrow.frozenAt N
            obtain ⟨oldv, hG0⟩ : ∃ u, w3.cell? ⟨G, N, none⟩ = some u := ⟨_, (hGrow.cellAt N (by omega)).trans (List.getElem?_eq_getElem (by simp; omega))⟩
            clear hown3 hgrow3 hat3 hLo hGrow
            have hwr : IntKind.i64.wrap ((M : Int) - 1) = (N : Int) := by rw [IntKind.wrap_i64]; omega
            obtain ⟨⟨p0, p1⟩, q0, q1⟩ := EB.out.two
            obtain ⟨⟨p2, p3⟩, q2, q3⟩ := (LB.out.other G N (.slice A4 1 c4) hGBne).two
            go_wp2_with (go_at_call 17; refine (radd_any' _ _ _).mono ?_; rintro e9 w9 ⟨rfl, rfl⟩)
            clear hrun1 hrun2 hrun3
            go_roundw
            case rel =>
              subst hf
              refine ⟨k + 1, N + 1, (fun j => if j = N then .slice A4 1 c4 else (fun j => if j = N then .slice (some ⟨w1.heap.size, 0, none⟩) 0 0 else vs j) j), (fun j => if j = N + 1 then k + 1 else s j), by omega, by go_num, ?_, HPA.out.new HFR.out, ?_, ?_, LK.out.other G N (.slice A4 1 c4) hGKne, ?_, ?_⟩
              · rw [run_x, HFR.out, if_pos rfl, HLW.out]
              · refine LR.out.congr (fun j _ => rfl) (fun j hj => ?_)
                have h8 := HPA.out.xs_new j (by omega)
                simp only [if_true]
                exact h8
              · exact LZ9.out
              · exact below_setg LL.out G N (.slice A4 1 c4) (by omega) (by omega)
              · rw [setCell_size']; omega
            case measure => simp [intOf]; omega
          · have hkb : ((k : Int) == 0) = false := by rw [beq_eq_false_iff_ne]; omega
            have hcmp : ((k : Int) % ee == 0) = false := by rw [beq_eq_false_iff_ne]; exact hq
            have HFR : Hid (fresh sp bg L' k = false) := by show _ = _; rw [HFP.out hk0, HXX.out, HLW.out, HBG.out, bgK2 _ _ (by omega) (by omega)]; unfold bgG; rw [← HEE.out]; exact hcmp
            obtain ⟨v1, w1, hrun1, hown1, hgrow1, _, hat1⟩ := run_append_own_at (P := Try.prog) (V.alloc (.cells #[.int .i64 qw, .int .i64 lh] 68)) (g + 1) 59 59 68 i0 _ 2 16 Try.underlying59 hi hz0 hz1 hz2 rfl (by decide) _ _ _ (VZ.out.alloc (.cells #[.int .i64 qw, .int .i64 lh] 68)) ⟨V.heap.size, 0, none⟩ 1 1 [.int .i64 qw, .int .i64 lh] rfl (cells_new' _ _ _ _ rfl _ rfl) (cc_one [(qw, lh)]) (by unfold maxLen; omega) (by omega) (by rw [size_alloc]; omega)
            have hpb1 : some pb ≠ (Value.slice Az k cz).ownBlock := fun e9 => by have := HXL.out pb e9.symm; omega
            have EZ := Lib.hid (show w1.ownsRow (g + 1) 68 2 v1 (k + 1) (cc ((L'.map fun b => (ln b.1, ln b.2)).take (k + 1))) by rw [HZT.out]; exact hown1)
            have EB := Lib.hid ((VP.out.alloc (.cells #[.int .i64 qw, .int .i64 lh] 68)).grown hgrow1 hpb1)
            have EK := Lib.hid ((VK.out.alloc (.cells #[.int .i64 qw, .int .i64 lh] 68)).grown hgrow1 (fun e9 => by have := (OZ.out.lt g e9.symm).1; omega))
            have ER := Lib.hid ((VR.out.alloc (.cells #[.int .i64 qw, .int .i64 lh] 68)).other (VZ.out.alloc (.cells #[.int .i64 qw, .int .i64 lh] 68)) hgrow1 (by decide) (by decide))
            have EL : Hid (Below g w w1) := Below.grown (VB.out.alloc (by omega) (.cells #[.int .i64 qw, .int .i64 lh] 68)) hgrow1 (by rw [size_alloc]; omega) (fun q hq => by have := (OZ.out.lt q hq).1; omega)
            have es : V.heap.size + 1 ≤ w1.heap.size := by have := hgrow1.size; rw [size_alloc] at this; exact this
            have hvb := VP.out.lt
            clear hown1 hgrow1 hat1 hpb1
            obtain ⟨A1, c1, rfl, hc1, hm1⟩ := own_slice EZ.out
            obtain ⟨f, hf⟩ : ∃ f, N = f + 1 := by have := HPA.out.some (by omega); exact ⟨N - 1, by omega⟩
            have FR := ER
            have FZ := EZ
            have FB := EB
            have FK := EK
            have FL := EL
            have fs : w1.heap.size ≤ w1.heap.size := Nat.le_refl _
            have hpq := EB.out.lt
            obtain ⟨G, cG, hGe, hGb, hGl, hGc, hGm⟩ := own_head FR.out.row (by omega)
            subst hGe
            have hfM : f < N := by omega
            have hcell := gr_cell FR.out hfM
            have hlastown := FR.out.each f hfM
            obtain ⟨A3, c3, hv3, hc3, hm3⟩ := own_slice hlastown
            have hln : ((nums (s f) (s (f + 1))) : List Int).length ≤ k := by rw [nums_len]; have := HPA.out.le (f + 1) (by omega); omega
            rw [hv3] at hcell
            obtain ⟨v3, w3, hrun3, hown3, hgrow3, _, hat3⟩ := run_append_own_at (P := Try.prog) (w1.alloc (.cells #[.int .i64 k] 3)) (g + 1) 36 36 3 i2 _ 1 8 Try.underlying36 li lz0 lz1 lz2 rfl (by decide) _ _ _ (hlastown.alloc (.cells #[.int .i64 k] 3)) ⟨w1.heap.size, 0, none⟩ 1 1 [.int .i64 k] rfl (cells_new' _ _ _ _ rfl _ rfl) (fun u hu => by rw [List.mem_singleton.1 hu]; rfl) (by unfold maxLen; omega) (by omega) (by rw [size_alloc]; omega)
            obtain ⟨A4, c4, hv4, _, _⟩ := own_slice hown3
            subst hv4
            have hrun3' := hrun3
            rw [hv3] at hrun3'
            have LR := Lib.hid ((FR.out.alloc (.cells #[.int .i64 k] 3)).last (x := (k : Int)) hfM hown3 hgrow3 hat3)
            have hLo := hlastown.alloc (.cells #[.int .i64 k] 3)
            have LZ := Lib.hid ((FZ.out.alloc (.cells #[.int .i64 k] 3)).kept hgrow3 (own_ne (FZ.out.alloc (.cells #[.int .i64 k] 3)) hLo (by decide)))
            have LB := Lib.hid ((FB.out.alloc (.cells #[.int .i64 k] 3)).grown hgrow3 (own_blk' hLo (FB.out.alloc (.cells #[.int .i64 k] 3)) (by decide)))
            have LK := Lib.hid ((FK.out.alloc (.cells #[.int .i64 k] 3)).grown hgrow3 (own_blk' hLo (FK.out.alloc (.cells #[.int .i64 k] 3)) (by decide)))
            have hGrow := (FR.out.row.alloc (.cells #[.int .i64 k] 3)).kept hgrow3 (own_ne (FR.out.row.alloc (.cells #[.int .i64 k] 3)) hLo (by decide))
            have LL : Hid (Below g w w3) := Below.grown (FL.out.alloc (by omega) (.cells #[.int .i64 k] 3)) hgrow3 (by rw [size_alloc]; omega) (fun q hq => by have := (hlastown.lt q hq).1; omega)
            have ls : w1.heap.size + 1 ≤ w3.heap.size := by have := hgrow3.size; rw [size_alloc] at this; exact this
            have LZ9 := Lib.hid (LZ.out.kept (grown_set w3 ⟨G, f, none⟩ (.slice A4 ((nums (s f) (s (f + 1))).length + 1) c4)) (own_ne LZ.out hGrow (by decide)))
            have hGBne : pb ≠ G := fun e9 => own_blk' hGrow LB.out (by decide) (by rw [e9]; rfl)
            have hGKne : g ≠ G := fun e9 => own_blk' hGrow LK.out (by decide) (by rw [e9]; rfl)
            have hG1 := hGrow.frozenAt f
            obtain ⟨oldv, hG0⟩ : ∃ u, w3.cell? ⟨G, f, none⟩ = some u := ⟨_, (hGrow.cellAt f (by omega)).trans (List.getElem?_eq_getElem (by simp; omega))⟩
            clear hown3 hgrow3 hat3 hLo hGrow
            have hwr : IntKind.i64.wrap ((N : Int) - 1) = (f : Int) := by rw [IntKind.wrap_i64]; omega
            obtain ⟨⟨p0, p1⟩, q0, q1⟩ := EB.out.two
            obtain ⟨⟨p2, p3⟩, q2, q3⟩ := (LB.out.other G f (.slice A4 ((nums (s f) (s (f + 1))).length + 1) c4) hGBne).two
            clear hrun3
            go_wp2_with (go_at_call 17; refine (radd_any' _ _ _).mono ?_; rintro e9 w9 ⟨rfl, rfl⟩)
            clear hrun1 hrun3'
            go_roundw
            case rel =>
              subst hf
              refine ⟨k + 1, f + 1, (fun j => if j = f then .slice A4 ((nums (s f) (s (f + 1))).length + 1) c4 else vs j), (fun j => if j = f + 1 then k + 1 else s j), by omega, by go_num, ?_, ?_, ?_, ?_, LK.out.other G f (.slice A4 ((nums (s f) (s (f + 1))).length + 1) c4) hGKne, ?_, ?_⟩
              · rw [run_x, HFR.out, if_neg (by simp), HLW.out, HXX.out]
              · exact HPA.out.more HFR.out
              · refine LR.out.congr (fun j _ => rfl) (fun j hj => ?_)
                exact HPA.out.xs_more j (by omega)
              · exact LZ9.out
              · exact below_setg LL.out G f (.slice A4 ((nums (s f) (s (f + 1))).length + 1) c4) (by omega) (by omega)
              · rw [setCell_size']; omega
            case measure => simp [intOf]; omega
    · obtain rfl : k = n := by omega
      have hZall : (L'.map fun b => (ln b.1, ln b.2)).take k = L'.map fun b => (ln b.1, ln b.2) := List.take_of_length_le (by rw [List.length_map, ← HLL.out]; omega)
      rw [hZall] at OZ
      obtain ⟨AG, cG, rfl, hcG, hmG⟩ := own_slice hgr.out.row
      have hNk := (HPA.out.le N (Nat.le_refl _)).2
      rw [HPA.out.e] at hNk
      have hE : ∀ j, j < N → ∃ A c, vs j = .slice A (s (j + 1) - s j) c ∧ At wr A (iz (nums (s j) (s (j + 1)))) := fun j hj => by
        have h9 := hgr.out.each j hj
        obtain ⟨A, c, e9, _, _⟩ := own_slice h9
        rw [e9] at h9
        exact ⟨A, c, by rw [e9, nums_len], At.own h9⟩
      have CP := Lib.hid (place_any sp bg L' AG Az N cG k cz vs s wr HSP.out HLL.out hb hNk (At.own hgr.out.row) hE HPA.out (At.own OZ.out))
      clear hE
      go_wp2_with fail
      refine CP.out.mono ?_
      rintro e W ⟨v, rfl, hown, hbel⟩
      have K9 := Lib.hid (OK.out.below hbel)
      have B9 : Hid (Below g w W) := OB.out.trans (hbel.mono (by omega))
      have z9 := hbel.size
      have O9 := Lib.hid hown
      clear hown hbel CP
      obtain ⟨⟨p0, p1⟩, q0, q1⟩ := K9.out.two
      go_wp2_with fail
      clear p0 p1 q0 q1
      have hge := HGG.out
      refine bodyPost_ret (results_tmp_mid rfl _ _ g 0 [.int .i64 (run sp bg L' k).2.2.1, .int .i64 (run sp bg L' k).2.2.2] _ rfl (range2 (((K9.out.set 0 (.int .i64 (run sp bg L' k).2.2.1)).set 1 (.int .i64 (run sp bg L' k).2.2.2)).cell 0 rfl) (((K9.out.set 0 (.int .i64 (run sp bg L' k).2.2.1)).set 1 (.int .i64 (run sp bg L' k).2.2.2)).cell 1 rfl)) Try.underlying68 rfl (by kernel_rfl)) rfl ?_
      refine ⟨_, rfl, own_mono (own_other (own_other O9.out g 0 _ (by omega)) g 1 _ (by omega)) (by omega), ?_⟩
      rw [hge]
      refine below_setg (below_setg B9.out g 0 _ (by omega) (by omega)) g 1 _ (by omega) ?_
      rw [setCell_size']
      omega
end Go.Proofs.Ytjpdnnjijcmioaa
