/- Contract of the document's Apply of shifts. -/
import Derived.Test.YtdaohjimfgdmbaaFpB2
import Derived.StillTactics
namespace Go.Proofs.Ytdaohjimfgdmbaa
open Go.RowKit Go.Maps Sn M
theorem sraddS_any (a b : Int) (w : World) : Calls Try.prog 43 #[.int .i64 a, .int .i64 b] w fun e w' => e = .returned (.int .i64 (ad a b)) ∧ w' = w :=
  (radd_any' a b w).mono fun _ _ h => ⟨h.1, h.2.symm⟩
/-- the first i entries moved. -/
def mvTo (s : Sh) (T : List En) (i : Nat) : List En := (T.take i).map (mv s) ++ T.drop i
theorem mvTo_zero (s : Sh) (T : List En) : mvTo s T 0 = T := by simp [mvTo]
theorem mvTo_all (s : Sh) (T : List En) : mvTo s T T.length = T.map (mv s) := by simp [mvTo]
theorem mvTo_len (s : Sh) (T : List En) (i : Nat) : (mvTo s T i).length = T.length := by simp [mvTo]; omega
theorem mvTo_at (s : Sh) (T : List En) (i : Nat) (h : i < T.length) : el (mvTo s T i) i = el T i := by
  rw [el_eq (by rw [mvTo_len]; exact h), el_eq h]
  unfold mvTo
  rw [List.getElem_append_right (by simp; omega)]
  simp [Nat.min_eq_left (Nat.le_of_lt h)]
theorem mvTo_next (s : Sh) (T : List En) (i : Nat) (h : i < T.length) : mvTo s T (i + 1) = (mvTo s T i).set i (mv s (el T i)) := by
  have e : T.drop i = el T i :: T.drop (i + 1) := by rw [el_eq h, List.getElem_cons_drop]
  have hl : ((T.take i).map (mv s)).length = i := by simp; omega
  unfold mvTo
  rw [List.take_succ_eq_append_getElem h, List.map_append, e, List.append_assoc, ← el_eq h, List.set_append, if_neg (by omega), hl, Nat.sub_self]
  rfl
theorem mvTo_pass (s : Sh) (T : List En) (i : Nat) (h : i < T.length) (hn : ¬ (el T i).id = s.id) : mvTo s T (i + 1) = mvTo s T i := by
  rw [mvTo_next s T i h]
  have : mv s (el T i) = el (mvTo s T i) i := by rw [mvTo_at s T i h]; unfold mv; rw [if_neg hn]
  rw [this, el_eq (by rw [mvTo_len]; exact h)]
  exact List.set_getElem_self _
theorem atW_own {w : World} {base : Nat} {e : TypeId} {size n c : Nat} {A : Option Addr} {xs : List Value} (h : w.ownsRow base e size (.slice A n c) n xs) : AtW w A xs ∧ (∀ b o p, A = some ⟨b, o, p⟩ → base ≤ b) := by
  refine ⟨⟨At.own h, fun b o p j u hA hj => ?_⟩, fun b o p hA => ?_⟩
  · rcases h.2 with ⟨hv, h0⟩ | ⟨g, c', cur, hv, hg, hh, _⟩
    · injection hv with hv _ _
      rw [hv] at hA
      cases hA
    · injection hv with hv _ _
      rw [hv] at hA
      injection hA with hA
      injection hA with e1 _ _
      subst e1
      exact frozen_of_row w _ _ cur e hh
  · rcases h.2 with ⟨hv, h0⟩ | ⟨g, c', cur, hv, hg, hh, _⟩
    · injection hv with hv _ _
      rw [hv] at hA
      cases hA
    · injection hv with hv _ _
      rw [hv] at hA
      injection hA with hA
      injection hA with e1 _ _
      omega
set_option maxHeartbeats 8000000 in
set_option maxRecDepth 100000 in
theorem rapply_any (A B : Option Addr) (n c m d : Nat) (L R : List En) (S : List Sh) (w : World) (hn : n = L.length) (hb : n ≤ 100000) (ha : At w A (ecs L)) (hm : m = S.length) (hm2 : m ≤ 100000) (hb' : At w B (shcs S)) (hr : Is En.id L R) :
    Calls Try.prog 27 #[.slice A n c, .slice B m d] w fun e w' => ∃ (A1 : Option Addr) (c1 : Nat), e = .returned (.slice A1 R.length c1) ∧ At w' A1 (ecs (appS R S)) ∧ Below w.heap.size w w' := by
  have C1 : Hid (Calls Try.prog 16 #[.slice A n c] w fun e w' => ∃ (A1 : Option Addr) (c1 : Nat), e = .returned (.slice A1 R.length c1) ∧ AtW w' A1 (ecs R) ∧ (∀ b o p, A1 = some ⟨b, o, p⟩ → w.heap.size ≤ b) ∧ Below w.heap.size w w') := by
    refine (rsnap_any A n c L w hn (by omega) ha).mono ?_
    rintro e w' ⟨r, v, rfl, hi, ho, _, hbel⟩
    obtain rfl : r = R := hi.uniq hr
    obtain ⟨A1, c1, rfl, _, _, _⟩ := at_of_own' ho
    exact ⟨A1, c1, rfl, (atW_own ho).1, (atW_own ho).2, hbel⟩
  have HRL : Hid (R.length ≤ 100000) := Nat.le_trans (is_len hr) (by omega)
  have HB := Lib.hid hb'
  have HM := Lib.hid hm
  clear hn ha hm hb' hr
  obtain ⟨q, hq⟩ : ∃ q, q = R.length := ⟨_, rfl⟩
  have HQ := Lib.hid hq
  rw [← hq] at C1 HRL ⊢
  have hq5 : q ≤ 100000 := HRL.out
  clear hq
  go_enter Try.func27, Try.ntmps27
  go_wp2_with fail
  refine C1.out.mono ?_
  rintro e w1 ⟨A1, c1, rfl, hat1, hfr1, hb1⟩
  have HAT := Lib.hid hat1
  have HFR := Lib.hid hfr1
  have HB1 := Lib.hid hb1
  clear hat1 hfr1 hb1 C1
  go_wp2_with fail
  go_loopw [13] (fun i wr => ∃ k : Nat, k ≤ m ∧ i = .int .i64 k ∧ Hid (AtW wr A1 (ecs (appS R (S.take k)))) ∧ Hid (Below w.heap.size w wr)) (fun i _ => m - (intOf i).toNat)
  case atStart => exact ⟨0, Nat.zero_le _, rfl, by rw [List.take_zero]; exact HAT, HB1⟩
  case round =>
    obtain ⟨k, hk, rfl, hat, hbel⟩ := hrel
    by_cases hlt : k < m
    · have hkS : k < S.length := by have := HM.out; omega
      obtain ⟨b1, o1, hB, hlb, hc0, hc1, hc2⟩ := at_sh HB.out hkS
      subst hB
      have hd0 := (hbel.out.cell (p := ⟨b1, o1 + k * 3, none⟩) hlb).trans hc0
      have hd1 := (hbel.out.cell (p := ⟨b1, o1 + k * 3 + 1, none⟩) hlb).trans hc1
      have hd2 := (hbel.out.cell (p := ⟨b1, o1 + k * 3 + 2, none⟩) hlb).trans hc2
      have hnx : appS R (S.take (k + 1)) = (appS R (S.take k)).map (mv S[k]) := by rw [take_nextS S k hkS, appS_snoc]
      have hlen := appS_len (S.take k) R
      generalize S[k] = s at *
      obtain ⟨T, hT⟩ : ∃ T, T = appS R (S.take k) := ⟨_, rfl⟩
      rw [← hT] at hat hnx hlen
      have HNX := Lib.hid hnx
      have HL : Hid (q = T.length) := by show q = T.length; rw [hlen]; exact HQ.out
      clear hT hnx hlen hc0 hc1 hc2 hkS
      obtain ⟨sid, dx, dy⟩ := s
      dsimp only at hd0 hd1 hd2
      obtain ⟨W1, hW1⟩ : ∃ W, W = wr.alloc (.cells #[.int .i64 sid, .int .i64 dx, .int .i64 dy] 60) := ⟨_, rfl⟩
      have hbw : Below wr.heap.size wr W1 := by rw [hW1]; exact below_alloc wr _
      obtain ⟨g, hg⟩ : ∃ g, g = wr.heap.size := ⟨_, rfl⟩
      have K1 := Lib.hid (show Blk W1 g 60 #[.int .i64 sid, .int .i64 dx, .int .i64 dy] by rw [hW1, hg]; exact Blk.new wr _ _)
      have HAT1 := Lib.hid (hat.out.below hbw)
      have HBW := Lib.hid (hbel.out.trans (hbw.mono hbel.out.size))
      have HAG : Hid (∀ b o p, A1 = some ⟨b, o, p⟩ → 0 < T.length → b < g) := by
        intro b o p e h0
        obtain ⟨b', o', e', hl, _⟩ := at_en hat.out.1 h0
        rw [e] at e'
        injection e' with e'
        injection e' with e1 _ _
        omega
      have HW1 := Lib.hid hW1
      have HG := Lib.hid hg
      clear hW1 hbw hg hat hbel
      go_upto_region 5 with fail
      rw [← HW1.out, ← HG.out]
      clear hd0 hd1 hd2
      go_wp2_with fail
      go_loopw [19] (fun i wx => ∃ i' : Nat, i' ≤ q ∧ i = .int .i64 i' ∧ Hid (AtW wx A1 (ecs (mvTo ⟨sid, dx, dy⟩ T i'))) ∧ Hid (Blk wx g 60 #[.int .i64 sid, .int .i64 dx, .int .i64 dy]) ∧ Hid (Below w.heap.size w wx)) (fun i _ => q - (intOf i).toNat)
      case atStart => exact ⟨0, Nat.zero_le _, rfl, by rw [mvTo_zero]; exact HAT1, K1, HBW⟩
      case round =>
        obtain ⟨i, hi, rfl, hati, hki, hbi⟩ := hrel
        rename World => wx
        by_cases hil : i < q
        · have hiT : i < T.length := by have := HL.out; omega
          have hiM : i < (mvTo ⟨sid, dx, dy⟩ T i).length := by rw [mvTo_len]; exact hiT
          obtain ⟨b2, o2, hA2, hlb2, e0, e1, e2, e3, e4⟩ := at_en hati.out.1 hiM
          subst hA2
          have hb2w : w.heap.size ≤ b2 := HFR.out b2 o2 none rfl
          have hb2g : b2 < g := HAG.out b2 o2 none rfl (by omega)
          rw [mvTo_at _ _ _ hiT] at e0 e1 e2 e3 e4
          have z0 := hati.out.2 b2 o2 none (i * 5 + 1) _ rfl (ecs_at _ i hiM 1 (by omega))
          have z1 := hati.out.2 b2 o2 none (i * 5 + 2) _ rfl (ecs_at _ i hiM 2 (by omega))
          have z0 : wx.frozen? ⟨b2, o2 + i * 5 + 1, none⟩ = false := z0
          have z1 : wx.frozen? ⟨b2, o2 + i * 5 + 2, none⟩ = false := z1
          have s0 := hki.out.cell 0 (v := .int .i64 sid) rfl
          have s1 := hki.out.cell 1 (v := .int .i64 dx) rfl
          have s2 := hki.out.cell 2 (v := .int .i64 dy) rfl
          by_cases hid : (el T i).id = sid
          · have hidb : ((el T i).id == sid) = true := by simpa using hid
            have HNT : Hid (mvTo ⟨sid, dx, dy⟩ T (i + 1) = (mvTo ⟨sid, dx, dy⟩ T i).set i ⟨(el T i).id, ad (el T i).x dx, ad (el T i).y dy, (el T i).w, (el T i).h⟩) := by
              show mvTo _ T (i + 1) = _
              rw [mvTo_next _ _ _ hiT]
              unfold mv
              rw [if_pos hid]
            have HXY := Lib.hid (fun (W : World) (h : AtW W (some ⟨b2, o2, none⟩) (ecs (mvTo ⟨sid, dx, dy⟩ T i))) => h.setXY hiM (ad (el T i).x dx) (ad (el T i).y dy))
            rw [mvTo_at _ _ _ hiT] at HXY
            rw [← HNT.out] at HXY
            clear hid hiT hiM HNT
            generalize (el T i).id = x0 at *
            generalize (el T i).x = x1 at *
            generalize (el T i).y = x2 at *
            generalize (el T i).w = x3 at *
            generalize (el T i).h = x4 at *
            go_upto_region 8 with fail
            go_big_quiet (fail)
            rename_i nq
            obtain ⟨W3, hW3⟩ : ∃ W, W = wx.drewN nq := ⟨_, rfl⟩
            have E1 : W3.cell? ⟨b2, o2 + i * 5 + 1, none⟩ = some (.int .i64 x1) := by rw [hW3]; exact e1
            have E2 : W3.cell? ⟨b2, o2 + i * 5 + 2, none⟩ = some (.int .i64 x2) := by rw [hW3]; exact e2
            have Z0 : W3.frozen? ⟨b2, o2 + i * 5 + 1, none⟩ = false := by rw [hW3]; exact z0
            have Z1 : W3.frozen? ⟨b2, o2 + i * 5 + 2, none⟩ = false := by rw [hW3]; exact z1
            have S1 : W3.cell? ⟨g, 1, none⟩ = some (.int .i64 dx) := by rw [hW3]; exact s1
            have S2 : W3.cell? ⟨g, 2, none⟩ = some (.int .i64 dy) := by rw [hW3]; exact s2
            have HATI := Lib.hid (show AtW W3 _ _ by rw [hW3]; exact hati.out.drewN _)
            have HKI := Lib.hid (show Blk W3 g _ _ by rw [hW3]; exact hki.out.drewN _)
            have HBI := Lib.hid (show Below w.heap.size w W3 by rw [hW3]; exact drewN_belowS hbi.out _)
            rw [← hW3]
            have hne : ¬ b2 = g := by omega
            have hne' : ¬ g = b2 := by omega
            clear hW3 e0 e1 e2 e3 e4 z0 z1 s0 s1 s2 hati hki hbi
            go_upto_region 9 with fail
            refine wp_region_still_tail 14 (by kernel_rfl) (by kernel_rfl) ?_
            simp only [List.take_succ_cons, List.take_zero, List.drop_succ_cons, List.drop_zero]
            repeat (first | still_step | still_call (sraddS_any _ _ _))
            refine wpStill_nil ?_
            change wpList _ _ _ _ _ W3.drew
            obtain ⟨U, hU⟩ : ∃ U, U = W3.drew := ⟨_, rfl⟩
            have u1 : U.cell? ⟨b2, o2 + i * 5 + 1, none⟩ = some (.int .i64 x1) := by rw [hU]; exact E1
            have u2 : U.cell? ⟨b2, o2 + i * 5 + 2, none⟩ = some (.int .i64 x2) := by rw [hU]; exact E2
            have y1 : U.frozen? ⟨b2, o2 + i * 5 + 1, none⟩ = false := by rw [hU]; exact Z0
            have y2 : U.frozen? ⟨b2, o2 + i * 5 + 2, none⟩ = false := by rw [hU]; exact Z1
            have v2 : U.cell? ⟨g, 2, none⟩ = some (.int .i64 dy) := by rw [hU]; exact S2
            rw [← hU]
            have HU := Lib.hid hU
            clear hU E1 E2 Z0 Z1 S1 S2
            go_upto_region 10 with fail
            obtain ⟨U2, hU2⟩ : ∃ U2, U2 = U.setCell ⟨b2, o2 + i * 5 + 1, none⟩ (.int .i64 (ad x1 dx)) := ⟨_, rfl⟩
            have E2 : U2.cell? ⟨b2, o2 + i * 5 + 2, none⟩ = some (.int .i64 x2) := by rw [hU2, World.cell?_setCell_other _ _ _ _ (by intro q; injection q with _ q2 _; omega)]; exact u2
            have Z1 : U2.frozen? ⟨b2, o2 + i * 5 + 2, none⟩ = false := by rw [hU2, World.frozen?_setCell]; exact y2
            have S2 : U2.cell? ⟨g, 2, none⟩ = some (.int .i64 dy) := by rw [hU2, World.cell?_setCell_other _ _ _ _ (by intro q; injection q with q1 _ _; omega)]; exact v2
            rw [← hU2]
            have HU2 := Lib.hid hU2
            clear hU2 u1 u2 y1 y2 v2
            refine wp_region_still_tail 14 (by kernel_rfl) (by kernel_rfl) ?_
            simp only [List.take_succ_cons, List.take_zero, List.drop_succ_cons, List.drop_zero]
            repeat (first | still_step | still_call (sraddS_any _ _ _))
            refine wpStill_nil ?_
            change wpList _ _ _ _ _ U2.drew
            obtain ⟨U3, hU3⟩ : ∃ U, U = U2.drew := ⟨_, rfl⟩
            have u2 : U3.cell? ⟨b2, o2 + i * 5 + 2, none⟩ = some (.int .i64 x2) := by rw [hU3]; exact E2
            have y2 : U3.frozen? ⟨b2, o2 + i * 5 + 2, none⟩ = false := by rw [hU3]; exact Z1
            rw [← hU3]
            have HU3 := Lib.hid hU3
            clear hU3 E2 Z1 S2
            have HFIN : Hid (AtW (U3.setCell ⟨b2, o2 + i * 5 + 2, none⟩ (.int .i64 (ad x2 dy))) (some ⟨b2, o2, none⟩) (ecs (mvTo ⟨sid, dx, dy⟩ T (i + 1)))) := by
              show AtW _ _ _
              rw [HU3.out, HU2.out, HU.out]
              exact HXY.out _ (AtW.drewN HATI.out 2)
            have HKF : Hid (Blk (U3.setCell ⟨b2, o2 + i * 5 + 2, none⟩ (.int .i64 (ad x2 dy))) g 60 #[.int .i64 sid, .int .i64 dx, .int .i64 dy]) := by
              show Blk _ _ _ _
              rw [HU3.out, HU2.out, HU.out]
              exact (((HKI.out.drew).other _ _ _ hne').drew).other _ _ _ hne'
            have HBF : Hid (Below w.heap.size w (U3.setCell ⟨b2, o2 + i * 5 + 2, none⟩ (.int .i64 (ad x2 dy)))) := by
              show Below _ _ _
              rw [HU3.out, HU2.out, HU.out]
              exact (Below_drew ((Below_drew HBI.out).setCell (p := ⟨b2, o2 + i * 5 + 1, none⟩) hb2w _)).setCell (p := ⟨b2, o2 + i * 5 + 2, none⟩) hb2w _
            go_wp2
            go_roundw
            case rel => exact ⟨i + 1, by omega, by go_num, HFIN, HKF, HBF⟩
            case measure => simp [intOf]; omega
          · have hidb : ((el T i).id == sid) = false := by simpa using hid
            have HNT := Lib.hid (mvTo_pass ⟨sid, dx, dy⟩ T i hiT hid)
            clear hid hiT hiM
            generalize (el T i).id = x0 at *
            generalize (el T i).x = x1 at *
            generalize (el T i).y = x2 at *
            generalize (el T i).w = x3 at *
            generalize (el T i).h = x4 at *
            go_upto_region 8 with fail
            go_big_quiet (fail)
            go_wp2
            go_roundw
            case rel => exact ⟨i + 1, by omega, by go_num, by rw [HNT.out]; exact Lib.hid (hati.out.drewN _), Lib.hid (hki.out.drewN _), Lib.hid (drewN_belowS hbi.out _)⟩
            case measure => simp [intOf]; omega
        · obtain rfl : i = q := by omega
          have HNT := Lib.hid (mvTo_all ⟨sid, dx, dy⟩ T)
          rw [← HL.out] at HNT
          go_wp2
          go_roundw
          case rel => exact ⟨k + 1, by omega, by go_num, Lib.hid (by rw [HNX.out, ← HNT.out]; exact hati.out), hbi⟩
          case measure => simp [intOf]; omega
    · obtain rfl : k = m := by omega
      have HS : Hid (S.take k = S) := List.take_of_length_le (by have := HM.out; omega)
      go_wp2
      go_ret
      exact ⟨A1, c1, rfl, by have := hat.out.1; rw [HS.out] at this; exact this, hbel.out⟩
end Go.Proofs.Ytdaohjimfgdmbaa
