/- Contract of flow's rows. -/
import Derived.Test.YtjpdnnjijcmioaaFlMath
import Derived.Maps.AppendAt
import Derived.LoopNIn
namespace Go.Proofs.Ytjpdnnjijcmioaa
open Go.RowKit M Fl
attribute [-go_sem] Builtin.append_
theorem infoPt : (Try.prog.info? 73).map (fun i => (i.zero, i.size, i.bytes)) = some (some (.agg #[.int .i64 0, .int .i64 0]), 2, 16) := by kernel_rfl
theorem info_parts {P : Program} {t : TypeId} {z : Value} {a b : Nat} (h : (P.info? t).map (fun i => (i.zero, i.size, i.bytes)) = some (some z, a, b)) : ∃ i, P.info? t = some i ∧ i.zero = some z ∧ i.size = a ∧ i.bytes = b := by
  cases hi : P.info? t with
  | none => rw [hi] at h; cases h
  | some i =>
    rw [hi] at h
    injection h with h
    injection h with h1 h2
    injection h2 with h2 h3
    exact ⟨i, rfl, h1, h2, h3⟩
theorem length_any (x : Int) (w : World) : Calls Try.prog 61 #[.int .i64 x] w fun e w' => e = .returned (.int .i64 (ln x)) ∧ w = w' := by
  go_enter Try.func61, Try.ntmps61
  go_wp2_with (go_at_call 65; refine (clip_any _ _ _ _).mono ?_; rintro e w' ⟨rfl, rfl⟩)
  go_ret
  exact ⟨rfl, rfl⟩
theorem slength_any (x : Int) (w : World) : Calls Try.prog 61 #[.int .i64 x] w fun e w' => e = .returned (.int .i64 (ln x)) ∧ w' = w := (length_any x w).mono fun _ _ h => ⟨h.1, h.2.symm⟩
theorem results_tmp_mid {P : Program} {fn : Func} {u p : Tmp} {ty : TypeId} (h : fn.results = #[.tmp u, .cell p ty]) (tmps : Array Value) (w : World) (b o : Nat) (cs : List Value) (d : TypeDesc)
    (hp : tmps.getD p undef = .pointer (some ⟨b, o, none⟩)) (hc : w.rangeAt b o cs) (hu : P.underlying ty = some d) (hd : d.isRow = true) (hi : (P.info? ty).map (·.size) = some cs.length) :
    (results fn tmps).run P w = .ok (.tuple #[tmps.getD u undef, .agg cs.toArray]) w := by
  have hp' : tmps[p]?.getD undef = .pointer (some ⟨b, o, none⟩) := by simpa using hp
  simp [results, h, hp', asAddr, run_loadVar_mid w b o ty cs d hc hu hd hi]
theorem range2 {w : World} {b : Nat} {x0 x1 : Value} (h0 : w.cell? ⟨b, 0, none⟩ = some x0) (h1 : w.cell? ⟨b, 1, none⟩ = some x1) : w.rangeAt b 0 [x0, x1] := by
  intro j u hu
  match j, hu with
  | 0, hu => injection hu with hu; subst hu; exact h0
  | 1, hu => injection hu with hu; subst hu; exact h1
theorem drewN_below' {B : Nat} {a w : World} (h : Below B a w) (q : Nat) : Below B a (w.drewN q) := ⟨h.os, h.tape, h.output, h.size, h.block⟩
theorem setCell_size' (w : World) (a : Addr) (u : Value) : (w.setCell a u).heap.size = w.heap.size := by simp
theorem below_setg {g : Nat} {w W : World} (h : Below g w W) (b o : Nat) (u : Value) (hb : g ≤ b) (hs : g ≤ W.heap.size) : Below g w (W.setCell ⟨b, o, none⟩ u) :=
  h.grown (grown_set W ⟨b, o, none⟩ u) hs (fun q hq => by injection hq with hq; simp only at hq; omega)
theorem at0_zero (sp : Int) (bg : Nat → Int → Bool) (s : S4) (b : Bx) {k : Nat} (h : k = 0) : at0 sp bg s k b = (s.1, s.2.1) := by unfold at0; rw [if_neg (by omega)]
theorem at0_stay (sp : Int) (bg : Nat → Int → Bool) (s : S4) (b : Bx) (k : Nat) (h : bg k (ad s.1 (ln b.1)) = false) : at0 sp bg s k b = (s.1, s.2.1) := by unfold at0; rw [if_neg (by rw [h]; simp)]
theorem at0_fresh (sp : Int) (bg : Nat → Int → Bool) (s : S4) (b : Bx) (k : Nat) (h0 : 0 < k) (h : bg k (ad s.1 (ln b.1)) = true) : at0 sp bg s k b = (0, ad s.2.2.2 sp) := by unfold at0; rw [if_pos ⟨h0, h⟩]
set_option maxHeartbeats 8000000 in
set_option maxRecDepth 100000 in
theorem rows_any (fn : FuncId) (caps : Array Value) (hcall : ∀ (a : Array Value) (W : World), (callFunc fn (a ++ caps)).run Try.prog W = .ok (.enter fn (a ++ caps)) W) (gap : Int) (A : Option Addr) (n c : Nat) (L : List Bx) (bg : Nat → Int → Bool) (w : World) (hn : n = L.length) (hb : n ≤ 1000) (ha : At w A (cc L))
    (hC : ∀ (W : World) (i : Nat) (r : Int), Below w.heap.size w W → Calls Try.prog fn (#[.int .i64 i, .int .i64 r] ++ caps) W fun e w' => e = .returned (.bool (bg i r)) ∧ W = w') :
    Calls Try.prog 62 #[.int .i64 gap, .slice A n c, .func (.func fn) #[] caps] w fun e w' => ∃ v, e = .returned (.tuple #[v, .agg #[.int .i64 (run (ln gap) bg L n).2.2.1, .int .i64 (run (ln gap) bg L n).2.2.2]]) ∧ w'.ownsRow w.heap.size 73 2 v n (cc (pts (ln gap) bg L n)) ∧ Below w.heap.size w w' := by
  have HN := Lib.hid hn
  have HA := Lib.hid ha
  have HC := Lib.hid hC
  clear hn ha hC
  obtain ⟨i0, hi, hz0, hz1, hz2⟩ := info_parts infoPt
  generalize hsp : ln gap = sp
  have hs0 : 0 ≤ sp := by rw [← hsp]; exact ln_lo _
  go_enter Try.func62, Try.ntmps62
  go_wp2_with fail
  refine (length_any _ _).mono ?_
  rintro e w1 ⟨rfl, rfl⟩
  rw [hsp]
  clear hsp
  go_wp2_with fail
  generalize hg : w.heap.size = g at *
  have HGE := Lib.hid hg
  have hW : ∃ W, ((w.alloc (.cells #[.int .i64 0, .int .i64 0] 64)).alloc (.cells #[.int .i64 0, .int .i64 0] 73)).alloc (.cells #[.int .i64 0, .int .i64 0] 64) = W ∧ V2 W g 0 0 ∧ V2 W (g + 1) 0 0 ∧ V2 W (g + 2) 0 0 ∧ Below g w W ∧ W.heap.size = g + 3 := by
    clear HGE
    subst hg
    refine ⟨_, rfl, ((V2.new w 0 0 _).alloc _).alloc _, ?_, ?_, ?_, by simp⟩
    · have h9 := (V2.new (w.alloc (.cells #[.int .i64 0, .int .i64 0] 64)) 0 0 73).alloc (.cells #[.int .i64 0, .int .i64 0] 64)
      rw [size_alloc] at h9
      exact h9
    · have h9 := V2.new ((w.alloc (.cells #[.int .i64 0, .int .i64 0] 64)).alloc (.cells #[.int .i64 0, .int .i64 0] 73)) 0 0 64
      rw [size_alloc, size_alloc] at h9
      exact h9
    · exact ((below_alloc w _).alloc (by simp) _).alloc (by simp <;> omega) _
  obtain ⟨W, e1, r1, r2, r3, b1, s1⟩ := hW
  rw [e1]
  clear e1 hg
  have HB1 := Lib.hid b1
  have HR1 := Lib.hid r1
  have HR2 := Lib.hid r2
  have HR3 := Lib.hid r3
  clear b1 r1 r2 r3
  go_loopw [9, 21] (fun v i wr => ∃ k : Nat, k ≤ n ∧ i = .int .i64 k ∧ Hid (wr.ownsRow (g + 3) 73 2 v k (cc (pts sp bg L k))) ∧ Hid (V2 wr g 0 0) ∧ Hid (V2 wr (g + 1) (run sp bg L k).1 (run sp bg L k).2.1) ∧ Hid (V2 wr (g + 2) (run sp bg L k).2.2.1 (run sp bg L k).2.2.2) ∧ Hid (Below g w wr) ∧ g + 3 ≤ wr.heap.size) (fun _ i _ => n - (intOf i).toNat)
  case atStart => exact ⟨0, Nat.zero_le _, rfl, World.ownsRow_nil _ _ _ _, HR1, HR2, HR3, HB1, by omega⟩
  case round =>
    obtain ⟨k, hk, rfl, hown, hres, hat, hwhole, hbel, hsz⟩ := hrel
    by_cases hlt : k < n
    · have hkl : k < L.length := by have := HN.out; omega
      have hpn := pts_next sp bg L k
      have hpt : pt sp bg L k = at0 sp bg (run sp bg L k) k (L.getD k (0, 0)) := rfl
      have hrn : run sp bg L (k + 1) = stp sp bg (run sp bg L k) k (L.getD k (0, 0)) := rfl
      obtain ⟨b, off, rfl, hbl, hc0, hc1⟩ := at_box (HA.out.below (by have h9 := hbel.out; have h8 := HGE.out; subst h8; exact h9)) hkl
      generalize L.getD k (0, 0) = bb at *
      obtain ⟨bx, bh⟩ := bb
      generalize run sp bg L k = rr at *
      obtain ⟨ax, ay, ww, wh⟩ := rr
      simp only at hc0 hc1
      have HRN := Lib.hid hrn
      have HPT := Lib.hid hpt
      have HPN' := Lib.hid hpn
      clear hpn hpt hrn
      obtain ⟨A7, c7, rfl, hc7, hm7⟩ := own_slice hown.out
      have DO' := hown.out.alloc (.cells #[.int .i64 bx, .int .i64 bh] 64)
      have DR' := hres.out.alloc (.cells #[.int .i64 bx, .int .i64 bh] 64)
      have DA' := hat.out.alloc (.cells #[.int .i64 bx, .int .i64 bh] 64)
      have DW' := hwhole.out.alloc (.cells #[.int .i64 bx, .int .i64 bh] 64)
      have DB' := hbel.out.alloc (by omega) (.cells #[.int .i64 bx, .int .i64 bh] 64)
      have DS' : g + 3 ≤ (wr.alloc (.cells #[.int .i64 bx, .int .i64 bh] 64)).heap.size := by rw [size_alloc]; omega
      go_wp2_with fail
      go_big_quiet ((go_at_call 61; refine Calls.quiet_of_same (slength_any _ _)))
      have DO := Lib.hid (own_drew' DO' nq)
      have DR := Lib.hid (DR'.drewN nq)
      have DA := Lib.hid (DA'.drewN nq)
      have DW := Lib.hid (DW'.drewN nq)
      have DB := Lib.hid (drewN_below' DB' nq)
      have DS : Hid (g + 3 ≤ ((wr.alloc (.cells #[.int .i64 bx, .int .i64 bh] 64)).drewN nq).heap.size) := DS'
      clear hc0 hc1 hown hres hat hwhole hbel hsz DO' DR' DA' DW' DB' DS'
      generalize (wr.alloc (.cells #[.int .i64 bx, .int .i64 bh] 64)).drewN nq = D at *
      have hkk : (0 : Int) ≤ (k : Int) := by omega
      have hds := DS.out
      by_cases hk0 : k = 0
      · have HK0 := Lib.hid hk0
        clear hk0
        have hk1 : ¬ (0 : Int) < (k : Int) := by have := HK0.out; omega
        have FO := Lib.hid DO.out
        have FA := Lib.hid DA.out
        have FW := Lib.hid DW.out
        have FR := Lib.hid DR.out
        have FB := Lib.hid DB.out
        have FS : g + 3 ≤ D.heap.size := DS.out
        have hat0 : at0 sp bg (ax, ay, ww, wh) k (bx, bh) = (ax, ay) := at0_zero _ _ _ _ HK0.out
        have HPX : Hid (cc (pts sp bg L (k + 1)) = cc (pts sp bg L k) ++ [.int .i64 (ax), .int .i64 (ay)]) := by show _ = _; rw [HPN'.out, HPT.out, hat0, cc_app]; rfl
        have HRX : Hid (run sp bg L (k + 1) = (ad (ad ax (ln bx)) sp, ay, max ww (ad ax (ln bx)), max wh (ad (ay) (ln bh)))) := by show _ = _; rw [HRN.out]; unfold stp; rw [hat0]
        clear hat0
        obtain ⟨v1, w1, hrun, hown1, hgrow1, _, hat1⟩ := run_append_own_at (P := Try.prog) (D.alloc (.cells #[.int .i64 (ax), .int .i64 (ay)] 73)) (g + 3) 62 62 73 i0 _ 2 16 Try.underlying62 hi hz0 hz1 hz2 rfl (by decide) _ _ _ (FO.out.alloc (.cells #[.int .i64 (ax), .int .i64 (ay)] 73)) ⟨D.heap.size, 0, none⟩ 1 1 [.int .i64 (ax), .int .i64 (ay)] rfl (cells_new' _ _ _ _ rfl _ rfl) (cc_one [(ax, ay)]) (by unfold maxLen; omega) (by omega) (by rw [size_alloc]; omega)
        have hne1 : ∀ b : Nat, b < g + 3 → some b ≠ (Value.slice A7 k c7).ownBlock := fun b hb e9 => by have := (FO.out.lt b e9.symm).1; omega
        have EO := Lib.hid (show w1.ownsRow (g + 3) 73 2 v1 (k + 1) (cc (pts sp bg L (k + 1))) by rw [HPX.out]; exact hown1)
        have EA := Lib.hid ((FA.out.alloc (.cells #[.int .i64 (ax), .int .i64 (ay)] 73)).grown hgrow1 (hne1 _ (by omega)))
        have EW := Lib.hid ((FW.out.alloc (.cells #[.int .i64 (ax), .int .i64 (ay)] 73)).grown hgrow1 (hne1 _ (by omega)))
        have ER := Lib.hid ((FR.out.alloc (.cells #[.int .i64 (ax), .int .i64 (ay)] 73)).grown hgrow1 (hne1 _ (by omega)))
        have ES : g + 3 ≤ w1.heap.size := by have := hgrow1.size; rw [size_alloc] at this; omega
        have EB : Hid (Below g w w1) := Below.grown (FB.out.alloc (by omega) (.cells #[.int .i64 (ax), .int .i64 (ay)] 73)) hgrow1 (by rw [size_alloc]; omega) (fun q hq => by have := (FO.out.lt q hq).1; omega)
        clear hown1 hgrow1 hat1 hne1 FO FA FW FR FB
        obtain ⟨A8, c8, rfl, hc8, hm8⟩ := own_slice EO.out
        obtain ⟨c0, c1, u0, u1⟩ := DA.out
        obtain ⟨c2, c3, u2, u3⟩ := DW.out
        obtain ⟨p0, p1, q0, q1⟩ := EA.out
        obtain ⟨p2, p3, q2, q3⟩ := EW.out
        go_wp2_with (first | (go_at_call 37; refine (add_any' _ _ _).mono ?_; rintro e9 w9 ⟨rfl, rfl⟩) )
        clear hrun c0 c1 u0 u1 c2 c3 u2 u3 p0 p1 q0 q1 p2 p3 q2 q3 FS
        have VA' := EA.out.other (g + 2) 0 (.int .i64 (max ww (ad ax (ln bx)))) (by omega)
        have VW' := EW.out.set0 (max ww (ad ax (ln bx)))
        have VR' := ER.out.other (g + 2) 0 (.int .i64 (max ww (ad ax (ln bx)))) (by omega)
        have VO' := own_other EO.out (g + 2) 0 (.int .i64 (max ww (ad ax (ln bx)))) (by omega)
        have VB' := below_setg EB.out (g + 2) 0 (.int .i64 (max ww (ad ax (ln bx)))) (by omega) (by omega)
        have VS' : g + 3 ≤ (w1.setCell ⟨g + 2, 0, none⟩ (.int .i64 (max ww (ad ax (ln bx))))).heap.size := by rw [setCell_size']; exact ES
        generalize w1.setCell ⟨g + 2, 0, none⟩ (.int .i64 (max ww (ad ax (ln bx)))) = V at *
        have HVA := Lib.hid VA'.drew
        have HVW := Lib.hid VW'.drew
        have HVR := Lib.hid VR'.drew
        have HVO := Lib.hid (own_heap VO' (w' := V.drew) rfl)
        have HVB := Lib.hid (Below_drew VB')
        have VS2 : g + 3 ≤ V.drew.heap.size := VS'
        obtain ⟨p0, p1, q0, q1⟩ := VA'
        obtain ⟨p2, p3, q2, q3⟩ := VW'
        clear VR' VO' VB' VS' EA EW ER EO EB ES
        refine wp_region_still_tail 8 (by kernel_rfl) (by kernel_rfl) ?_
        simp only [List.take_succ_cons, List.take_zero, List.drop_succ_cons, List.drop_zero]
        repeat (first | still_step | still_call (sadd_any _ _ _))
        refine wpStill_nil ?_
        change wpList _ _ _ _ _ V.drew
        clear p0 p1 q0 q1 p2 p3 q2 q3
        generalize V.drew = U at *
        obtain ⟨p0, p1, q0, q1⟩ := HVA.out
        obtain ⟨p2, p3, q2, q3⟩ := HVW.out
        go_wp2_with (first | (go_at_call 37; refine (add_any' _ _ _).mono ?_; rintro e9 w9 ⟨rfl, rfl⟩))
        clear p0 p1 q0 q1 p2 p3 q2 q3
        go_roundw
        case rel =>
          refine ⟨k + 1, by omega, by go_num, ?_, ?_, ?_, ?_, ?_, ?_⟩
          · exact own_other (own_other HVO.out (g + 2) 1 _ (by omega)) (g + 1) 0 _ (by omega)
          · exact (HVR.out.other (g + 2) 1 _ (by omega)).other (g + 1) 0 _ (by omega)
          · rw [HRX.out]; exact (HVA.out.other (g + 2) 1 _ (by omega)).set0 _
          · rw [HRX.out]; exact (HVW.out.set1 _).other (g + 1) 0 _ (by omega)
          · exact below_setg (below_setg HVB.out (g + 2) 1 _ (by omega) (by omega)) (g + 1) 0 _ (by omega) (by rw [setCell_size']; omega)
          · rw [setCell_size', setCell_size']; omega
        case measure => simp [intOf]; omega
      · have HK0 : Hid (0 < k) := Nat.pos_of_ne_zero hk0
        clear hk0
        have hk1 : (0 : Int) < (k : Int) := by have := HK0.out; omega
        by_cases hbg : bg k (ad ax (ln bx)) = true
        · have HBG := Lib.hid hbg
          clear hbg
          have FO := Lib.hid (own_other (own_other DO.out (g + 1) 0 (.int .i64 0) (by omega)) (g + 1) 1 (.int .i64 (ad wh sp)) (by omega))
          have FA := Lib.hid ((DA.out.set0 0).set1 (ad wh sp))
          have FW := Lib.hid ((DW.out.other (g + 1) 0 (.int .i64 0) (by omega)).other (g + 1) 1 (.int .i64 (ad wh sp)) (by omega))
          have FR := Lib.hid ((DR.out.other (g + 1) 0 (.int .i64 0) (by omega)).other (g + 1) 1 (.int .i64 (ad wh sp)) (by omega))
          have FB := Lib.hid (below_setg (below_setg DB.out (g + 1) 0 (.int .i64 0) (by omega) (by have := DS.out; omega)) (g + 1) 1 (.int .i64 (ad wh sp)) (by omega) (by rw [setCell_size']; have := DS.out; omega))
          have FS : g + 3 ≤ ((D.setCell ⟨g + 1, 0, none⟩ (.int .i64 0)).setCell ⟨g + 1, 1, none⟩ (.int .i64 (ad wh sp))).heap.size := by rw [setCell_size', setCell_size']; exact DS.out
          have hat0 : at0 sp bg (ax, ay, ww, wh) k (bx, bh) = (0, ad wh sp) := at0_fresh _ _ _ _ _ HK0.out HBG.out
          have HPX : Hid (cc (pts sp bg L (k + 1)) = cc (pts sp bg L k) ++ [.int .i64 (0), .int .i64 (ad wh sp)]) := by show _ = _; rw [HPN'.out, HPT.out, hat0, cc_app]; rfl
          have HRX : Hid (run sp bg L (k + 1) = (ad (ad 0 (ln bx)) sp, ad wh sp, max ww (ad 0 (ln bx)), max wh (ad (ad wh sp) (ln bh)))) := by show _ = _; rw [HRN.out]; unfold stp; rw [hat0]
          clear hat0
          obtain ⟨v1, w1, hrun, hown1, hgrow1, _, hat1⟩ := run_append_own_at (P := Try.prog) (((D.setCell ⟨g + 1, 0, none⟩ (.int .i64 0)).setCell ⟨g + 1, 1, none⟩ (.int .i64 (ad wh sp))).alloc (.cells #[.int .i64 (0), .int .i64 (ad wh sp)] 73)) (g + 3) 62 62 73 i0 _ 2 16 Try.underlying62 hi hz0 hz1 hz2 rfl (by decide) _ _ _ (FO.out.alloc (.cells #[.int .i64 (0), .int .i64 (ad wh sp)] 73)) ⟨D.heap.size, 0, none⟩ 1 1 [.int .i64 (0), .int .i64 (ad wh sp)] rfl (cells_new' _ _ _ _ rfl _ (by rw [setCell_size', setCell_size'])) (cc_one [(0, ad wh sp)]) (by unfold maxLen; omega) (by omega) (by rw [size_alloc]; omega)
          have hne1 : ∀ b : Nat, b < g + 3 → some b ≠ (Value.slice A7 k c7).ownBlock := fun b hb e9 => by have := (FO.out.lt b e9.symm).1; omega
          have EO := Lib.hid (show w1.ownsRow (g + 3) 73 2 v1 (k + 1) (cc (pts sp bg L (k + 1))) by rw [HPX.out]; exact hown1)
          have EA := Lib.hid ((FA.out.alloc (.cells #[.int .i64 (0), .int .i64 (ad wh sp)] 73)).grown hgrow1 (hne1 _ (by omega)))
          have EW := Lib.hid ((FW.out.alloc (.cells #[.int .i64 (0), .int .i64 (ad wh sp)] 73)).grown hgrow1 (hne1 _ (by omega)))
          have ER := Lib.hid ((FR.out.alloc (.cells #[.int .i64 (0), .int .i64 (ad wh sp)] 73)).grown hgrow1 (hne1 _ (by omega)))
          have ES : g + 3 ≤ w1.heap.size := by have := hgrow1.size; rw [size_alloc] at this; omega
          have EB : Hid (Below g w w1) := Below.grown (FB.out.alloc (by omega) (.cells #[.int .i64 (0), .int .i64 (ad wh sp)] 73)) hgrow1 (by rw [size_alloc]; omega) (fun q hq => by have := (FO.out.lt q hq).1; omega)
          clear hown1 hgrow1 hat1 hne1 FO FA FW FR FB
          obtain ⟨A8, c8, rfl, hc8, hm8⟩ := own_slice EO.out
          obtain ⟨c0, c1, u0, u1⟩ := DA.out
          obtain ⟨c2, c3, u2, u3⟩ := DW.out
          obtain ⟨p0, p1, q0, q1⟩ := EA.out
          obtain ⟨p2, p3, q2, q3⟩ := EW.out
          go_wp2_with (first | (go_at_call 37; refine (add_any' _ _ _).mono ?_; rintro e9 w9 ⟨rfl, rfl⟩) | (refine (HC.out D k _ DB.out).mono ?_; rintro e9 w9 ⟨rfl, rfl⟩; rw [HBG.out]))
          clear hrun c0 c1 u0 u1 c2 c3 u2 u3 p0 p1 q0 q1 p2 p3 q2 q3 FS
          have VA' := EA.out.other (g + 2) 0 (.int .i64 (max ww (ad 0 (ln bx)))) (by omega)
          have VW' := EW.out.set0 (max ww (ad 0 (ln bx)))
          have VR' := ER.out.other (g + 2) 0 (.int .i64 (max ww (ad 0 (ln bx)))) (by omega)
          have VO' := own_other EO.out (g + 2) 0 (.int .i64 (max ww (ad 0 (ln bx)))) (by omega)
          have VB' := below_setg EB.out (g + 2) 0 (.int .i64 (max ww (ad 0 (ln bx)))) (by omega) (by omega)
          have VS' : g + 3 ≤ (w1.setCell ⟨g + 2, 0, none⟩ (.int .i64 (max ww (ad 0 (ln bx))))).heap.size := by rw [setCell_size']; exact ES
          generalize w1.setCell ⟨g + 2, 0, none⟩ (.int .i64 (max ww (ad 0 (ln bx)))) = V at *
          have HVA := Lib.hid VA'.drew
          have HVW := Lib.hid VW'.drew
          have HVR := Lib.hid VR'.drew
          have HVO := Lib.hid (own_heap VO' (w' := V.drew) rfl)
          have HVB := Lib.hid (Below_drew VB')
          have VS2 : g + 3 ≤ V.drew.heap.size := VS'
          obtain ⟨p0, p1, q0, q1⟩ := VA'
          obtain ⟨p2, p3, q2, q3⟩ := VW'
          clear VR' VO' VB' VS' EA EW ER EO EB ES
          refine wp_region_still_tail 8 (by kernel_rfl) (by kernel_rfl) ?_
          simp only [List.take_succ_cons, List.take_zero, List.drop_succ_cons, List.drop_zero]
          repeat (first | still_step | still_call (sadd_any _ _ _))
          refine wpStill_nil ?_
          change wpList _ _ _ _ _ V.drew
          clear p0 p1 q0 q1 p2 p3 q2 q3
          generalize V.drew = U at *
          obtain ⟨p0, p1, q0, q1⟩ := HVA.out
          obtain ⟨p2, p3, q2, q3⟩ := HVW.out
          go_wp2_with (first | (go_at_call 37; refine (add_any' _ _ _).mono ?_; rintro e9 w9 ⟨rfl, rfl⟩))
          clear p0 p1 q0 q1 p2 p3 q2 q3
          go_roundw
          case rel =>
            refine ⟨k + 1, by omega, by go_num, ?_, ?_, ?_, ?_, ?_, ?_⟩
            · exact own_other (own_other HVO.out (g + 2) 1 _ (by omega)) (g + 1) 0 _ (by omega)
            · exact (HVR.out.other (g + 2) 1 _ (by omega)).other (g + 1) 0 _ (by omega)
            · rw [HRX.out]; exact (HVA.out.other (g + 2) 1 _ (by omega)).set0 _
            · rw [HRX.out]; exact (HVW.out.set1 _).other (g + 1) 0 _ (by omega)
            · exact below_setg (below_setg HVB.out (g + 2) 1 _ (by omega) (by omega)) (g + 1) 0 _ (by omega) (by rw [setCell_size']; omega)
            · rw [setCell_size', setCell_size']; omega
          case measure => simp [intOf]; omega
        · have HBG : Hid (bg k (ad ax (ln bx)) = false) := by show _ = _; simpa using hbg
          clear hbg
          have FO := Lib.hid DO.out
          have FA := Lib.hid DA.out
          have FW := Lib.hid DW.out
          have FR := Lib.hid DR.out
          have FB := Lib.hid DB.out
          have FS : g + 3 ≤ D.heap.size := DS.out
          have hat0 : at0 sp bg (ax, ay, ww, wh) k (bx, bh) = (ax, ay) := at0_stay _ _ _ _ _ HBG.out
          have HPX : Hid (cc (pts sp bg L (k + 1)) = cc (pts sp bg L k) ++ [.int .i64 (ax), .int .i64 (ay)]) := by show _ = _; rw [HPN'.out, HPT.out, hat0, cc_app]; rfl
          have HRX : Hid (run sp bg L (k + 1) = (ad (ad ax (ln bx)) sp, ay, max ww (ad ax (ln bx)), max wh (ad (ay) (ln bh)))) := by show _ = _; rw [HRN.out]; unfold stp; rw [hat0]
          clear hat0
          obtain ⟨v1, w1, hrun, hown1, hgrow1, _, hat1⟩ := run_append_own_at (P := Try.prog) (D.alloc (.cells #[.int .i64 (ax), .int .i64 (ay)] 73)) (g + 3) 62 62 73 i0 _ 2 16 Try.underlying62 hi hz0 hz1 hz2 rfl (by decide) _ _ _ (FO.out.alloc (.cells #[.int .i64 (ax), .int .i64 (ay)] 73)) ⟨D.heap.size, 0, none⟩ 1 1 [.int .i64 (ax), .int .i64 (ay)] rfl (cells_new' _ _ _ _ rfl _ rfl) (cc_one [(ax, ay)]) (by unfold maxLen; omega) (by omega) (by rw [size_alloc]; omega)
          have hne1 : ∀ b : Nat, b < g + 3 → some b ≠ (Value.slice A7 k c7).ownBlock := fun b hb e9 => by have := (FO.out.lt b e9.symm).1; omega
          have EO := Lib.hid (show w1.ownsRow (g + 3) 73 2 v1 (k + 1) (cc (pts sp bg L (k + 1))) by rw [HPX.out]; exact hown1)
          have EA := Lib.hid ((FA.out.alloc (.cells #[.int .i64 (ax), .int .i64 (ay)] 73)).grown hgrow1 (hne1 _ (by omega)))
          have EW := Lib.hid ((FW.out.alloc (.cells #[.int .i64 (ax), .int .i64 (ay)] 73)).grown hgrow1 (hne1 _ (by omega)))
          have ER := Lib.hid ((FR.out.alloc (.cells #[.int .i64 (ax), .int .i64 (ay)] 73)).grown hgrow1 (hne1 _ (by omega)))
          have ES : g + 3 ≤ w1.heap.size := by have := hgrow1.size; rw [size_alloc] at this; omega
          have EB : Hid (Below g w w1) := Below.grown (FB.out.alloc (by omega) (.cells #[.int .i64 (ax), .int .i64 (ay)] 73)) hgrow1 (by rw [size_alloc]; omega) (fun q hq => by have := (FO.out.lt q hq).1; omega)
          clear hown1 hgrow1 hat1 hne1 FO FA FW FR FB
          obtain ⟨A8, c8, rfl, hc8, hm8⟩ := own_slice EO.out
          obtain ⟨c0, c1, u0, u1⟩ := DA.out
          obtain ⟨c2, c3, u2, u3⟩ := DW.out
          obtain ⟨p0, p1, q0, q1⟩ := EA.out
          obtain ⟨p2, p3, q2, q3⟩ := EW.out
          go_wp2_with (first | (go_at_call 37; refine (add_any' _ _ _).mono ?_; rintro e9 w9 ⟨rfl, rfl⟩) | (refine (HC.out D k _ DB.out).mono ?_; rintro e9 w9 ⟨rfl, rfl⟩; rw [HBG.out]))
          clear hrun c0 c1 u0 u1 c2 c3 u2 u3 p0 p1 q0 q1 p2 p3 q2 q3 FS
          have VA' := EA.out.other (g + 2) 0 (.int .i64 (max ww (ad ax (ln bx)))) (by omega)
          have VW' := EW.out.set0 (max ww (ad ax (ln bx)))
          have VR' := ER.out.other (g + 2) 0 (.int .i64 (max ww (ad ax (ln bx)))) (by omega)
          have VO' := own_other EO.out (g + 2) 0 (.int .i64 (max ww (ad ax (ln bx)))) (by omega)
          have VB' := below_setg EB.out (g + 2) 0 (.int .i64 (max ww (ad ax (ln bx)))) (by omega) (by omega)
          have VS' : g + 3 ≤ (w1.setCell ⟨g + 2, 0, none⟩ (.int .i64 (max ww (ad ax (ln bx))))).heap.size := by rw [setCell_size']; exact ES
          generalize w1.setCell ⟨g + 2, 0, none⟩ (.int .i64 (max ww (ad ax (ln bx)))) = V at *
          have HVA := Lib.hid VA'.drew
          have HVW := Lib.hid VW'.drew
          have HVR := Lib.hid VR'.drew
          have HVO := Lib.hid (own_heap VO' (w' := V.drew) rfl)
          have HVB := Lib.hid (Below_drew VB')
          have VS2 : g + 3 ≤ V.drew.heap.size := VS'
          obtain ⟨p0, p1, q0, q1⟩ := VA'
          obtain ⟨p2, p3, q2, q3⟩ := VW'
          clear VR' VO' VB' VS' EA EW ER EO EB ES
          refine wp_region_still_tail 8 (by kernel_rfl) (by kernel_rfl) ?_
          simp only [List.take_succ_cons, List.take_zero, List.drop_succ_cons, List.drop_zero]
          repeat (first | still_step | still_call (sadd_any _ _ _))
          refine wpStill_nil ?_
          change wpList _ _ _ _ _ V.drew
          clear p0 p1 q0 q1 p2 p3 q2 q3
          generalize V.drew = U at *
          obtain ⟨p0, p1, q0, q1⟩ := HVA.out
          obtain ⟨p2, p3, q2, q3⟩ := HVW.out
          go_wp2_with (first | (go_at_call 37; refine (add_any' _ _ _).mono ?_; rintro e9 w9 ⟨rfl, rfl⟩))
          clear p0 p1 q0 q1 p2 p3 q2 q3
          go_roundw
          case rel =>
            refine ⟨k + 1, by omega, by go_num, ?_, ?_, ?_, ?_, ?_, ?_⟩
            · exact own_other (own_other HVO.out (g + 2) 1 _ (by omega)) (g + 1) 0 _ (by omega)
            · exact (HVR.out.other (g + 2) 1 _ (by omega)).other (g + 1) 0 _ (by omega)
            · rw [HRX.out]; exact (HVA.out.other (g + 2) 1 _ (by omega)).set0 _
            · rw [HRX.out]; exact (HVW.out.set1 _).other (g + 1) 0 _ (by omega)
            · exact below_setg (below_setg HVB.out (g + 2) 1 _ (by omega) (by omega)) (g + 1) 0 _ (by omega) (by rw [setCell_size']; omega)
            · rw [setCell_size', setCell_size']; omega
          case measure => simp [intOf]; omega
    · obtain rfl : k = n := by omega
      have WA := Lib.hid hwhole.out.drew
      have WR := Lib.hid hres.out.drew
      have WO := Lib.hid (own_heap hown.out (w' := wr.drew) rfl)
      have WB := Lib.hid (Below_drew hbel.out)
      have WS : g + 3 ≤ wr.drew.heap.size := hsz
      obtain ⟨p2, p3, q2, q3⟩ := hwhole.out
      clear hown hat hwhole hbel hsz hres
      go_wp2_with fail
      refine wp_region_still_tail 3 (by kernel_rfl) (by kernel_rfl) ?_
      simp only [List.take_succ_cons, List.take_zero, List.drop_succ_cons, List.drop_zero]
      repeat still_step
      refine wpStill_nil ?_
      change wpList _ _ _ _ _ wr.drew
      clear p2 p3 q2 q3
      generalize wr.drew = U at *
      obtain ⟨p0, p1, q0, q1⟩ := WR.out
      go_wp2_with fail
      clear p0 p1 q0 q1
      have hge := HGE.out
      refine bodyPost_ret (results_tmp_mid rfl _ _ g 0 [.int .i64 (run sp bg L k).2.2.1, .int .i64 (run sp bg L k).2.2.2] _ rfl (range2 ((WR.out.set0 _).set1 _).c0 ((WR.out.set0 _).set1 _).c1) Try.underlying64 rfl (by kernel_rfl)) rfl ?_
      refine ⟨_, rfl, own_mono (own_other (own_other WO.out g 0 _ (by omega)) g 1 _ (by omega)) (by omega), ?_⟩
      rw [hge]
      exact below_setg (below_setg WB.out g 0 _ (by omega) (by omega)) g 1 _ (by omega) (by rw [setCell_size']; omega)
end Go.Proofs.Ytjpdnnjijcmioaa
