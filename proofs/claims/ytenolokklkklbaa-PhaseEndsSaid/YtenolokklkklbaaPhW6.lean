/- Contracts of a kid's methods, part 3. -/
import Derived.Test.YtenolokklkklbaaPhW3
namespace Go.Proofs.Ytenolokklkklbaa
open Go.RowKit Ph
set_option linter.unusedVariables false
namespace Ph
theorem em_h (s : St) : ((mk s).endMove).h = [] := by
  unfold Ou.endMove
  split <;> rfl
set_option maxHeartbeats 1000000 in
set_option maxRecDepth 100000 in
theorem cancel_any (s : St) (w : World) : Calls Try.prog 24 #[.agg (stc s)] w fun e w' => Outs w (cancel s) e w' := by
  unfold stc
  obtain ⟨V, hV⟩ : ∃ V, V = ((w.alloc (.cells #[.int .i64 s.k, .int .i64 s.m, .int .i64 s.x, .int .i64 s.y, .int .i64 s.d, .int .i64 s.e] 27)).alloc (.cells #[.int .i64 0, .int .i64 0, .int .i64 0, .int .i64 0, .int .i64 0, .int .i64 0, .slice none 0 0, .int .i64 0, .int .i64 0, .bool false, .bool false, .bool false] 34)).alloc (.cells #[.int .i64 s.k, .int .i64 s.m, .int .i64 s.x, .int .i64 s.y, .int .i64 s.d, .int .i64 s.e, .slice none 0 0, .int .i64 0, .int .i64 0, .bool false, .bool false, .bool false] 34) := ⟨_, rfl⟩
  obtain ⟨h0, hr0, hs0, hb0, hz0⟩ := start_ob w s V hV
  have HV := Lib.hid hV
  have H0 := Lib.hid h0
  have HR0 := Lib.hid hr0
  have HS0 := Lib.hid hs0
  have HB0 := Lib.hid hb0
  have HZ0 := hz0
  have HL0 : Hid (w.heap.size + 2 ≤ V.heap.size) := by show _ ≤ _; omega
  have HBV : Hid (Below (w.heap.size + 2) V V) := Below.refl _ _
  clear hV h0 hr0 hs0 hb0 hz0 HZ0
  obtain ⟨sc0, sc1, sc2, sc3, sc4, sc5⟩ := six_cells (HS0.out.belowB HBV.out (by omega))
  have CE := fun W => entering_any s.k s.m s.x s.y W
  have hqe : s.ent = (decide (s.k = 2) || decide (s.k = 3)) := rfl
  rw [← hqe] at CE
  have CL := fun W => leaving_any s.k s.m s.x s.y W
  have hql : s.lea = (decide (s.k = 5) || decide (s.k = 6)) := rfl
  rw [← hql] at CL
  cases hq : s.ent
  · rw [hq] at CE hqe
    cases hl : s.lea
    · rw [hl] at CL hql
      have HCE := Lib.hid CE
      have HCL := Lib.hid CL
      clear CE CL hqe hql
      have HE : Hid ((mk s).endMove = cancel s) := by show _ = _; unfold cancel; rw [hq, hl, if_neg (by simp), if_neg (by simp)]
      go_enter Try.func24, Try.ntmps24
      go_upto_region 2 with fail
      rw [← HV.out]
      have C1 := Lib.hid (endMove_any H0.out)
      go_wp2_with fail
      (with_reducible refine C1.out.mono ?_)
      rintro e w1 ⟨rfl, h1, hb1⟩
      have H1 := Lib.hid h1
      have HB1 := Lib.hid (HBV.out.trans hb1)
      clear h1 hb1 C1
      obtain ⟨sc0, sc1, sc2, sc3, sc4, sc5⟩ := six_cells (HS0.out.belowB HB1.out (by omega))
      have C2 := Lib.hid (HCE.out w1)
      go_wp2_with fail
      (with_reducible refine C2.out.mono ?_)
      rintro e w2 ⟨rfl, hb1⟩
      have H2 := Lib.hid (H1.out.below hb1)
      have HB2 := Lib.hid (HB1.out.trans (hb1.mono (by have := H1.out.lt; have := H1.out.base; omega)))
      clear hb1 C2
      obtain ⟨sc0, sc1, sc2, sc3, sc4, sc5⟩ := six_cells (HS0.out.belowB HB2.out (by omega))
      have C3 := Lib.hid (HCL.out w2)
      go_wp2_with fail
      (with_reducible refine C3.out.mono ?_)
      rintro e w3 ⟨rfl, hb1⟩
      have H3 := Lib.hid (H2.out.below hb1)
      have HB3 := Lib.hid (HB2.out.trans (hb1.mono (by have := H2.out.lt; have := H2.out.base; omega)))
      clear hb1 C3
      obtain ⟨tc0, tc1, tc2, tc3, tc4, tc5, tc6, tc7, tc8, tc9, tc10, tc11⟩ := H3.out.cells
      have hrw := HR0.out.belowB HB3.out (by omega)
      obtain ⟨rc0, rc1, rc2, rc3, rc4, rc5, rc6, rc7, rc8, rc9, rc10, rc11⟩ := blk12 hrw
      obtain ⟨rz0, rz1, rz2, rz3, rz4, rz5, rz6, rz7, rz8, rz9, rz10, rz11⟩ := frz12 hrw
      have HRW := Lib.hid hrw
      clear hrw
      go_wp2
      (try simp only [Exit.inBlock, Exit.then])
      refine bodyPost_ret (results_cell_row rfl _ _ (w.heap.size + 1) 34 _ (0, 0) _ rfl (blk_set12 HRW.out) Try.underlying34 rfl (by kernel_rfl)) rfl ?_
      exact outs_of H3.out HRW.out HB0.out HB3.out HE.out
    · rw [hl] at CL hql
      have HCE := Lib.hid CE
      have HCL := Lib.hid CL
      clear CE CL hqe hql
      have HE : Hid (((mk s).endMove).vanish = cancel s) := by show _ = _; unfold cancel; rw [hq, hl, if_neg (by simp), if_pos rfl]
      go_enter Try.func24, Try.ntmps24
      go_upto_region 2 with fail
      rw [← HV.out]
      have C1 := Lib.hid (endMove_any H0.out)
      go_wp2_with fail
      (with_reducible refine C1.out.mono ?_)
      rintro e w1 ⟨rfl, h1, hb1⟩
      have H1 := Lib.hid h1
      have HB1 := Lib.hid (HBV.out.trans hb1)
      clear h1 hb1 C1
      obtain ⟨sc0, sc1, sc2, sc3, sc4, sc5⟩ := six_cells (HS0.out.belowB HB1.out (by omega))
      have C2 := Lib.hid (HCE.out w1)
      go_wp2_with fail
      (with_reducible refine C2.out.mono ?_)
      rintro e w2 ⟨rfl, hb1⟩
      have H2 := Lib.hid (H1.out.below hb1)
      have HB2 := Lib.hid (HB1.out.trans (hb1.mono (by have := H1.out.lt; have := H1.out.base; omega)))
      clear hb1 C2
      obtain ⟨sc0, sc1, sc2, sc3, sc4, sc5⟩ := six_cells (HS0.out.belowB HB2.out (by omega))
      have C3 := Lib.hid (HCL.out w2)
      go_wp2_with fail
      (with_reducible refine C3.out.mono ?_)
      rintro e w3 ⟨rfl, hb1⟩
      have H3 := Lib.hid (H2.out.below hb1)
      have HB3 := Lib.hid (HB2.out.trans (hb1.mono (by have := H2.out.lt; have := H2.out.base; omega)))
      clear hb1 C3
      have C4 := Lib.hid (vanish_any (by rw [em_h]; exact Nat.zero_le _) H3.out)
      go_wp2_with fail
      (with_reducible refine C4.out.mono ?_)
      rintro e w4 ⟨rfl, ⟨hv4, h1⟩, hb1⟩
      have H4 := Lib.hid h1
      have HB4 := Lib.hid (HB3.out.trans hb1)
      clear h1 hb1 C4
      obtain ⟨tA, tc, tv, _, _⟩ := own_slice H4.out.row
      subst tv
      obtain ⟨tc0, tc1, tc2, tc3, tc4, tc5, tc6, tc7, tc8, tc9, tc10, tc11⟩ := H4.out.cells
      have hrw := HR0.out.belowB HB4.out (by omega)
      obtain ⟨rc0, rc1, rc2, rc3, rc4, rc5, rc6, rc7, rc8, rc9, rc10, rc11⟩ := blk12 hrw
      obtain ⟨rz0, rz1, rz2, rz3, rz4, rz5, rz6, rz7, rz8, rz9, rz10, rz11⟩ := frz12 hrw
      have HRW := Lib.hid hrw
      clear hrw
      go_wp2
      (try simp only [Exit.inBlock, Exit.then])
      refine bodyPost_ret (results_cell_row rfl _ _ (w.heap.size + 1) 34 _ (0, 0) _ rfl (blk_set12 HRW.out) Try.underlying34 rfl (by kernel_rfl)) rfl ?_
      exact outs_of H4.out HRW.out HB0.out HB4.out HE.out
  · rw [hq] at CE hqe
    have HCE := Lib.hid CE
    have HCL := Lib.hid CL
    clear CE CL hqe hql
    have HE : Hid ((((mk s).endMove).stopE).become 0 = cancel s) := by show _ = _; unfold cancel; rw [hq, if_pos rfl]
    go_enter Try.func24, Try.ntmps24
    go_upto_region 2 with fail
    rw [← HV.out]
    have C1 := Lib.hid (endMove_any H0.out)
    go_wp2_with fail
    (with_reducible refine C1.out.mono ?_)
    rintro e w1 ⟨rfl, h1, hb1⟩
    have H1 := Lib.hid h1
    have HB1 := Lib.hid (HBV.out.trans hb1)
    clear h1 hb1 C1
    obtain ⟨sc0, sc1, sc2, sc3, sc4, sc5⟩ := six_cells (HS0.out.belowB HB1.out (by omega))
    have C2 := Lib.hid (HCE.out w1)
    go_wp2_with fail
    (with_reducible refine C2.out.mono ?_)
    rintro e w2 ⟨rfl, hb1⟩
    have H2 := Lib.hid (H1.out.below hb1)
    have HB2 := Lib.hid (HB1.out.trans (hb1.mono (by have := H1.out.lt; have := H1.out.base; omega)))
    clear hb1 C2
    obtain ⟨sc0, sc1, sc2, sc3, sc4, sc5⟩ := six_cells (HS0.out.belowB HB2.out (by omega))
    have C3 := Lib.hid (stopE_any (by rw [em_h]; exact Nat.zero_le _) H2.out)
    go_wp2_with fail
    (with_reducible refine C3.out.mono ?_)
    rintro e w3 ⟨rfl, ⟨hv3, h1⟩, hb1⟩
    have H3 := Lib.hid h1
    have HB3 := Lib.hid (HB2.out.trans hb1)
    clear h1 hb1 C3
    have C4 := Lib.hid (become_any 0 H3.out)
    go_wp2_with fail
    (with_reducible refine C4.out.mono ?_)
    rintro e w4 ⟨rfl, h1, hb1⟩
    have H4 := Lib.hid h1
    have HB4 := Lib.hid (HB3.out.trans hb1)
    clear h1 hb1 C4
    obtain ⟨tA, tc, tv, _, _⟩ := own_slice H4.out.row
    subst tv
    obtain ⟨tc0, tc1, tc2, tc3, tc4, tc5, tc6, tc7, tc8, tc9, tc10, tc11⟩ := H4.out.cells
    have hrw := HR0.out.belowB HB4.out (by omega)
    obtain ⟨rc0, rc1, rc2, rc3, rc4, rc5, rc6, rc7, rc8, rc9, rc10, rc11⟩ := blk12 hrw
    obtain ⟨rz0, rz1, rz2, rz3, rz4, rz5, rz6, rz7, rz8, rz9, rz10, rz11⟩ := frz12 hrw
    have HRW := Lib.hid hrw
    clear hrw
    go_wp2
    (try simp only [Exit.inBlock, Exit.then])
    refine bodyPost_ret (results_cell_row rfl _ _ (w.heap.size + 1) 34 _ (0, 0) _ rfl (blk_set12 HRW.out) Try.underlying34 rfl (by kernel_rfl)) rfl ?_
    exact outs_of H4.out HRW.out HB0.out HB4.out HE.out
set_option maxHeartbeats 1000000 in
set_option maxRecDepth 100000 in
theorem shift_any (s : St) (x y d : Int) (w : World) : Calls Try.prog 26 #[.agg (stc s), .int .i64 x, .int .i64 y, .int .i64 d] w fun e w' => Outs w (shift s x y d) e w' := by
  unfold stc
  obtain ⟨V, hV⟩ : ∃ V, V = ((w.alloc (.cells #[.int .i64 s.k, .int .i64 s.m, .int .i64 s.x, .int .i64 s.y, .int .i64 s.d, .int .i64 s.e] 27)).alloc (.cells #[.int .i64 0, .int .i64 0, .int .i64 0, .int .i64 0, .int .i64 0, .int .i64 0, .slice none 0 0, .int .i64 0, .int .i64 0, .bool false, .bool false, .bool false] 34)).alloc (.cells #[.int .i64 s.k, .int .i64 s.m, .int .i64 s.x, .int .i64 s.y, .int .i64 s.d, .int .i64 s.e, .slice none 0 0, .int .i64 0, .int .i64 0, .bool false, .bool false, .bool false] 34) := ⟨_, rfl⟩
  obtain ⟨h0, hr0, hs0, hb0, hz0⟩ := start_ob w s V hV
  have HV := Lib.hid hV
  have H0 := Lib.hid h0
  have HR0 := Lib.hid hr0
  have HS0 := Lib.hid hs0
  have HB0 := Lib.hid hb0
  have HZ0 := hz0
  have HL0 : Hid (w.heap.size + 2 ≤ V.heap.size) := by show _ ≤ _; omega
  have HBV : Hid (Below (w.heap.size + 2) V V) := Below.refl _ _
  clear hV h0 hr0 hs0 hb0 hz0 HZ0
  obtain ⟨sc0, sc1, sc2, sc3, sc4, sc5⟩ := six_cells (HS0.out.belowB HBV.out (by omega))
  by_cases hk : s.k = 0
  · have hk1 : (s.k == 0) = true := by simpa using hk
    by_cases hx : x = 0
    · by_cases hy : y = 0
      · have hc : ¬ (s.k = 0 ∧ (x ≠ 0 ∨ y ≠ 0)) := by omega
        have hx1 : (x == 0) = true := by simpa using hx
        have hy1 : (y == 0) = true := by simpa using hy
        clear hk hx hy
        have HE : Hid (mk s = shift s x y d) := by show _ = _; unfold shift; rw [if_neg hc]
        clear hc
        go_enter Try.func26, Try.ntmps26
        go_upto_region 2 with fail
        rw [← HV.out]
        obtain ⟨tc0, tc1, tc2, tc3, tc4, tc5, tc6, tc7, tc8, tc9, tc10, tc11⟩ := H0.out.cells
        have hrw := HR0.out.belowB HBV.out (by omega)
        obtain ⟨rc0, rc1, rc2, rc3, rc4, rc5, rc6, rc7, rc8, rc9, rc10, rc11⟩ := blk12 hrw
        obtain ⟨rz0, rz1, rz2, rz3, rz4, rz5, rz6, rz7, rz8, rz9, rz10, rz11⟩ := frz12 hrw
        have HRW := Lib.hid hrw
        clear hrw
        go_wp2
        (try simp only [Exit.inBlock, Exit.then])
        refine bodyPost_ret (results_cell_row rfl _ _ (w.heap.size + 1) 34 _ (0, 0) _ rfl (blk_set12 HRW.out) Try.underlying34 rfl (by kernel_rfl)) rfl ?_
        exact outs_of H0.out HRW.out HB0.out HBV.out HE.out
      · subst hx
        have hc : s.k = 0 ∧ ((0 : Int) ≠ 0 ∨ y ≠ 0) := by omega
        clear hk
        have HE : Hid ((((mk s).endMove)).away 0 y d = shift s 0 y d) := by show _ = _; unfold shift; rw [if_pos hc]
        clear hc
        go_enter Try.func26, Try.ntmps26
        go_upto_region 2 with fail
        rw [← HV.out]
        have C1 := Lib.hid (endMove_any H0.out)
        go_wp2_with fail
        (with_reducible refine C1.out.mono ?_)
        rintro e w1 ⟨rfl, h1, hb1⟩
        have H1 := Lib.hid h1
        have HB1 := Lib.hid (HBV.out.trans hb1)
        clear h1 hb1 C1
        obtain ⟨uc0, uc1, uc2, uc3, uc4, uc5, uc6, uc7, uc8, uc9, uc10, uc11⟩ := H1.out.cells
        obtain ⟨uz0, uz1, uz2, uz3, uz4, uz5, uz6, uz7, uz8, uz9, uz10, uz11⟩ := H1.out.frz
        have h2 := ((((((H1.out.put 0 (.int .i64 0) (o' := ⟨⟨0, ((mk s).endMove).s.m, ((mk s).endMove).s.x, ((mk s).endMove).s.y, ((mk s).endMove).s.d, ((mk s).endMove).s.e⟩, ((mk s).endMove).h, ((mk s).endMove).j, ((mk s).endMove).mj, ((mk s).endMove).en, ((mk s).endMove).me, ((mk s).endMove).go⟩) rfl rfl).put 1 (.int .i64 1) (o' := ⟨⟨0, 1, ((mk s).endMove).s.x, ((mk s).endMove).s.y, ((mk s).endMove).s.d, ((mk s).endMove).s.e⟩, ((mk s).endMove).h, ((mk s).endMove).j, ((mk s).endMove).mj, ((mk s).endMove).en, ((mk s).endMove).me, ((mk s).endMove).go⟩) rfl rfl).put 2 (.int .i64 0) (o' := ⟨⟨0, 1, 0, ((mk s).endMove).s.y, ((mk s).endMove).s.d, ((mk s).endMove).s.e⟩, ((mk s).endMove).h, ((mk s).endMove).j, ((mk s).endMove).mj, ((mk s).endMove).en, ((mk s).endMove).me, ((mk s).endMove).go⟩) rfl rfl).put 3 (.int .i64 y) (o' := ⟨⟨0, 1, 0, y, ((mk s).endMove).s.d, ((mk s).endMove).s.e⟩, ((mk s).endMove).h, ((mk s).endMove).j, ((mk s).endMove).mj, ((mk s).endMove).en, ((mk s).endMove).me, ((mk s).endMove).go⟩) rfl rfl).put 5 (.int .i64 d) (o' := ⟨⟨0, 1, 0, y, ((mk s).endMove).s.d, d⟩, ((mk s).endMove).h, ((mk s).endMove).j, ((mk s).endMove).mj, ((mk s).endMove).en, ((mk s).endMove).me, ((mk s).endMove).go⟩) rfl rfl).put 8 (.int .i64 1) (o' := (((mk s).endMove)).away 0 y d) rfl rfl)
        obtain ⟨w2, hw2⟩ : ∃ w2, w2 = ((((((w1.setCell ⟨w.heap.size + 2, 0, none⟩ (.int .i64 0)).setCell ⟨w.heap.size + 2, 1, none⟩ (.int .i64 1)).setCell ⟨w.heap.size + 2, 2, none⟩ (.int .i64 0)).setCell ⟨w.heap.size + 2, 3, none⟩ (.int .i64 y)).setCell ⟨w.heap.size + 2, 5, none⟩ (.int .i64 d)).setCell ⟨w.heap.size + 2, 8, none⟩ (.int .i64 1)) := ⟨_, rfl⟩
        rw [← hw2] at h2
        have HW2 := Lib.hid hw2
        have H2 := Lib.hid h2
        have HB2 : Hid (Below (w.heap.size + 2) V w2) := by show Below _ _ _; rw [hw2]; exact (bset' (bset' (bset' (bset' (bset' (bset' HB1.out (Nat.le_refl _) _ _) (Nat.le_refl _) _ _) (Nat.le_refl _) _ _) (Nat.le_refl _) _ _) (Nat.le_refl _) _ _) (Nat.le_refl _) _ _)
        clear hw2 h2
        go_upto_region 6 with fail
        rw [← HW2.out]
        obtain ⟨tc0, tc1, tc2, tc3, tc4, tc5, tc6, tc7, tc8, tc9, tc10, tc11⟩ := H2.out.cells
        have hrw := HR0.out.belowB HB2.out (by omega)
        obtain ⟨rc0, rc1, rc2, rc3, rc4, rc5, rc6, rc7, rc8, rc9, rc10, rc11⟩ := blk12 hrw
        obtain ⟨rz0, rz1, rz2, rz3, rz4, rz5, rz6, rz7, rz8, rz9, rz10, rz11⟩ := frz12 hrw
        have HRW := Lib.hid hrw
        clear hrw
        go_wp2
        (try simp only [Exit.inBlock, Exit.then])
        refine bodyPost_ret (results_cell_row rfl _ _ (w.heap.size + 1) 34 _ (0, 0) _ rfl (blk_set12 HRW.out) Try.underlying34 rfl (by kernel_rfl)) rfl ?_
        exact outs_of H2.out HRW.out HB0.out HB2.out HE.out
    · have hc : s.k = 0 ∧ (x ≠ 0 ∨ y ≠ 0) := by omega
      clear hk
      have HE : Hid ((((mk s).endMove)).away x y d = shift s x y d) := by show _ = _; unfold shift; rw [if_pos hc]
      clear hc
      go_enter Try.func26, Try.ntmps26
      go_upto_region 2 with fail
      rw [← HV.out]
      have C1 := Lib.hid (endMove_any H0.out)
      go_wp2_with fail
      (with_reducible refine C1.out.mono ?_)
      rintro e w1 ⟨rfl, h1, hb1⟩
      have H1 := Lib.hid h1
      have HB1 := Lib.hid (HBV.out.trans hb1)
      clear h1 hb1 C1
      obtain ⟨uc0, uc1, uc2, uc3, uc4, uc5, uc6, uc7, uc8, uc9, uc10, uc11⟩ := H1.out.cells
      obtain ⟨uz0, uz1, uz2, uz3, uz4, uz5, uz6, uz7, uz8, uz9, uz10, uz11⟩ := H1.out.frz
      have h2 := ((((((H1.out.put 0 (.int .i64 0) (o' := ⟨⟨0, ((mk s).endMove).s.m, ((mk s).endMove).s.x, ((mk s).endMove).s.y, ((mk s).endMove).s.d, ((mk s).endMove).s.e⟩, ((mk s).endMove).h, ((mk s).endMove).j, ((mk s).endMove).mj, ((mk s).endMove).en, ((mk s).endMove).me, ((mk s).endMove).go⟩) rfl rfl).put 1 (.int .i64 1) (o' := ⟨⟨0, 1, ((mk s).endMove).s.x, ((mk s).endMove).s.y, ((mk s).endMove).s.d, ((mk s).endMove).s.e⟩, ((mk s).endMove).h, ((mk s).endMove).j, ((mk s).endMove).mj, ((mk s).endMove).en, ((mk s).endMove).me, ((mk s).endMove).go⟩) rfl rfl).put 2 (.int .i64 x) (o' := ⟨⟨0, 1, x, ((mk s).endMove).s.y, ((mk s).endMove).s.d, ((mk s).endMove).s.e⟩, ((mk s).endMove).h, ((mk s).endMove).j, ((mk s).endMove).mj, ((mk s).endMove).en, ((mk s).endMove).me, ((mk s).endMove).go⟩) rfl rfl).put 3 (.int .i64 y) (o' := ⟨⟨0, 1, x, y, ((mk s).endMove).s.d, ((mk s).endMove).s.e⟩, ((mk s).endMove).h, ((mk s).endMove).j, ((mk s).endMove).mj, ((mk s).endMove).en, ((mk s).endMove).me, ((mk s).endMove).go⟩) rfl rfl).put 5 (.int .i64 d) (o' := ⟨⟨0, 1, x, y, ((mk s).endMove).s.d, d⟩, ((mk s).endMove).h, ((mk s).endMove).j, ((mk s).endMove).mj, ((mk s).endMove).en, ((mk s).endMove).me, ((mk s).endMove).go⟩) rfl rfl).put 8 (.int .i64 1) (o' := (((mk s).endMove)).away x y d) rfl rfl)
      obtain ⟨w2, hw2⟩ : ∃ w2, w2 = ((((((w1.setCell ⟨w.heap.size + 2, 0, none⟩ (.int .i64 0)).setCell ⟨w.heap.size + 2, 1, none⟩ (.int .i64 1)).setCell ⟨w.heap.size + 2, 2, none⟩ (.int .i64 x)).setCell ⟨w.heap.size + 2, 3, none⟩ (.int .i64 y)).setCell ⟨w.heap.size + 2, 5, none⟩ (.int .i64 d)).setCell ⟨w.heap.size + 2, 8, none⟩ (.int .i64 1)) := ⟨_, rfl⟩
      rw [← hw2] at h2
      have HW2 := Lib.hid hw2
      have H2 := Lib.hid h2
      have HB2 : Hid (Below (w.heap.size + 2) V w2) := by show Below _ _ _; rw [hw2]; exact (bset' (bset' (bset' (bset' (bset' (bset' HB1.out (Nat.le_refl _) _ _) (Nat.le_refl _) _ _) (Nat.le_refl _) _ _) (Nat.le_refl _) _ _) (Nat.le_refl _) _ _) (Nat.le_refl _) _ _)
      clear hw2 h2
      go_upto_region 6 with fail
      rw [← HW2.out]
      obtain ⟨tc0, tc1, tc2, tc3, tc4, tc5, tc6, tc7, tc8, tc9, tc10, tc11⟩ := H2.out.cells
      have hrw := HR0.out.belowB HB2.out (by omega)
      obtain ⟨rc0, rc1, rc2, rc3, rc4, rc5, rc6, rc7, rc8, rc9, rc10, rc11⟩ := blk12 hrw
      obtain ⟨rz0, rz1, rz2, rz3, rz4, rz5, rz6, rz7, rz8, rz9, rz10, rz11⟩ := frz12 hrw
      have HRW := Lib.hid hrw
      clear hrw
      go_wp2
      (try simp only [Exit.inBlock, Exit.then])
      refine bodyPost_ret (results_cell_row rfl _ _ (w.heap.size + 1) 34 _ (0, 0) _ rfl (blk_set12 HRW.out) Try.underlying34 rfl (by kernel_rfl)) rfl ?_
      exact outs_of H2.out HRW.out HB0.out HB2.out HE.out
  · have hc : ¬ (s.k = 0 ∧ (x ≠ 0 ∨ y ≠ 0)) := by omega
    have HE : Hid (mk s = shift s x y d) := by show _ = _; unfold shift; rw [if_neg hc]
    clear hc
    go_enter Try.func26, Try.ntmps26
    go_upto_region 2 with fail
    rw [← HV.out]
    obtain ⟨tc0, tc1, tc2, tc3, tc4, tc5, tc6, tc7, tc8, tc9, tc10, tc11⟩ := H0.out.cells
    have hrw := HR0.out.belowB HBV.out (by omega)
    obtain ⟨rc0, rc1, rc2, rc3, rc4, rc5, rc6, rc7, rc8, rc9, rc10, rc11⟩ := blk12 hrw
    obtain ⟨rz0, rz1, rz2, rz3, rz4, rz5, rz6, rz7, rz8, rz9, rz10, rz11⟩ := frz12 hrw
    have HRW := Lib.hid hrw
    clear hrw
    go_wp2
    (try simp only [Exit.inBlock, Exit.then])
    refine bodyPost_ret (results_cell_row rfl _ _ (w.heap.size + 1) 34 _ (0, 0) _ rfl (blk_set12 HRW.out) Try.underlying34 rfl (by kernel_rfl)) rfl ?_
    exact outs_of H0.out HRW.out HB0.out HBV.out HE.out
set_option maxHeartbeats 4000000 in
set_option maxRecDepth 100000 in
theorem settle_any (s : St) (w : World) : Calls Try.prog 25 #[.agg (stc s)] w fun e w' => Outs w (settle s) e w' := by
  obtain ⟨V0, hV0⟩ : ∃ V0, V0 = (w.alloc (.cells #[.int .i64 s.k, .int .i64 s.m, .int .i64 s.x, .int .i64 s.y, .int .i64 s.d, .int .i64 s.e] 27)).alloc (.cells #[.int .i64 0, .int .i64 0, .int .i64 0, .int .i64 0, .int .i64 0, .int .i64 0, .slice none 0 0, .int .i64 0, .int .i64 0, .bool false, .bool false, .bool false] 34) := ⟨_, rfl⟩
  have hz0 : V0.heap.size = w.heap.size + 2 := by rw [hV0]; simp
  have hb0 : Below w.heap.size w V0 := by rw [hV0]; exact (below_alloc w _).alloc (by simp) _
  have hs0 : Blk V0 w.heap.size 27 (stc s) := by rw [hV0]; exact (Blk.new w _ _).alloc _
  have hr0 : Blk V0 (w.heap.size + 1) 34 zo := by rw [hV0]; exact Blk.new' (w.alloc _) _ _ _ (by simp)
  have C := cancel_any s V0
  unfold Outs stc at C
  rw [hz0] at C
  have HC := Lib.hid C
  have HV0 := Lib.hid hV0
  have HB0 := Lib.hid hb0
  have HS0 := Lib.hid hs0
  have HR0 := Lib.hid hr0
  have HZ0 := Lib.hid hz0
  obtain ⟨sc0, sc1, sc2, sc3, sc4, sc5⟩ := six_cells hs0
  clear hV0 hb0 hs0 hr0 hz0 C
  unfold stc
  go_enter Try.func25, Try.ntmps25
  go_upto_region 1 with fail
  rw [← HV0.out]
  go_wp2_with fail
  (with_reducible refine HC.out.mono ?_)
  rintro e w1 ⟨hv, rfl, ho, hb⟩
  obtain ⟨A, c, rfl, _, _⟩ := own_slice ho
  unfold ouc
  obtain ⟨V, hV⟩ : ∃ V, V = w1.alloc (.cells #[.int .i64 (cancel s).s.k, .int .i64 (cancel s).s.m, .int .i64 (cancel s).s.x, .int .i64 (cancel s).s.y, .int .i64 (cancel s).s.d, .int .i64 (cancel s).s.e, .slice A (cancel s).h.length c, .int .i64 (cancel s).j, .int .i64 (cancel s).mj, .bool (cancel s).en, .bool (cancel s).me, .bool (cancel s).go] 34) := ⟨_, rfl⟩
  have hb1 : Below (w.heap.size + 2) V0 V := by rw [hV]; have := HZ0.out; have := hb.size; exact (hb.alloc (by omega) _)
  have h1 : Ob V (w.heap.size + 2) w1.heap.size (cancel s) (.slice A (cancel s).h.length c) := by
    subst hV
    have := HZ0.out
    have := hb.size
    exact ⟨by omega, Blk.new _ _ _, own_below ho (below_alloc w1 _)⟩
  have HV := Lib.hid hV
  have H1 := Lib.hid h1
  have HBV := Lib.hid hb1
  have hnr := hb.size
  have HNR : Hid (w.heap.size + 2 ≤ w1.heap.size) := by have := HZ0.out; show _ ≤ _; omega
  clear hV h1 hb1 ho hb hnr HC
  generalize hq : cancel s = q at *
  have HQ := Lib.hid hq
  clear hq
  go_upto_region 2 with fail
  rw [← HV.out]
  obtain ⟨sd0, sd1, sd2, sd3, sd4, sd5⟩ := six_cells (HS0.out.belowB HBV.out (by omega))
  by_cases hk : s.k = 1
  · have HE : Hid (q.gone = settle s) := by show _ = _; unfold settle; rw [if_pos (.inl hk), HQ.out]
    have hk1 : (s.k == 1) = true := by simpa using hk
    clear hk
    obtain ⟨uc0, uc1, uc2, uc3, uc4, uc5, uc6, uc7, uc8, uc9, uc10, uc11⟩ := H1.out.cells
    obtain ⟨uz0, uz1, uz2, uz3, uz4, uz5, uz6, uz7, uz8, uz9, uz10, uz11⟩ := H1.out.frz
    have h2 := H1.out.put 11 (.bool true) (o' := q.gone) rfl rfl
    obtain ⟨w2, hw2⟩ : ∃ w2, w2 = V.setCell ⟨w1.heap.size, 11, none⟩ (.bool true) := ⟨_, rfl⟩
    rw [← hw2] at h2
    have HW2 := Lib.hid hw2
    have H2 := Lib.hid h2
    have HB2 : Hid (Below (w.heap.size + 2) V0 w2) := by show Below _ _ _; rw [hw2]; exact bset' HBV.out HNR.out _ _
    clear hw2 h2
    go_upto_region 4 with fail
    rw [← HW2.out]
    obtain ⟨tc0, tc1, tc2, tc3, tc4, tc5, tc6, tc7, tc8, tc9, tc10, tc11⟩ := H2.out.cells
    have hrw := HR0.out.belowB HB2.out (by omega)
    obtain ⟨rc0, rc1, rc2, rc3, rc4, rc5, rc6, rc7, rc8, rc9, rc10, rc11⟩ := blk12 hrw
    obtain ⟨rz0, rz1, rz2, rz3, rz4, rz5, rz6, rz7, rz8, rz9, rz10, rz11⟩ := frz12 hrw
    have HRW := Lib.hid hrw
    clear hrw
    go_wp2
    (try simp only [Exit.inBlock, Exit.then])
    refine bodyPost_ret (results_cell_row rfl _ _ (w.heap.size + 1) 34 _ (0, 0) _ rfl (blk_set12 HRW.out) Try.underlying34 rfl (by kernel_rfl)) rfl ?_
    exact outs_of H2.out HRW.out HB0.out HB2.out HE.out
  · by_cases hk4 : s.k = 4
    · have HE : Hid (q.gone = settle s) := by show _ = _; unfold settle; rw [if_pos (.inr hk4), HQ.out]
      have hk1 : (s.k == 4) = true := by simpa using hk4
      clear hk4
      obtain ⟨uc0, uc1, uc2, uc3, uc4, uc5, uc6, uc7, uc8, uc9, uc10, uc11⟩ := H1.out.cells
      obtain ⟨uz0, uz1, uz2, uz3, uz4, uz5, uz6, uz7, uz8, uz9, uz10, uz11⟩ := H1.out.frz
      have h2 := H1.out.put 11 (.bool true) (o' := q.gone) rfl rfl
      obtain ⟨w2, hw2⟩ : ∃ w2, w2 = V.setCell ⟨w1.heap.size, 11, none⟩ (.bool true) := ⟨_, rfl⟩
      rw [← hw2] at h2
      have HW2 := Lib.hid hw2
      have H2 := Lib.hid h2
      have HB2 : Hid (Below (w.heap.size + 2) V0 w2) := by show Below _ _ _; rw [hw2]; exact bset' HBV.out HNR.out _ _
      clear hw2 h2
      go_upto_region 4 with fail
      rw [← HW2.out]
      obtain ⟨tc0, tc1, tc2, tc3, tc4, tc5, tc6, tc7, tc8, tc9, tc10, tc11⟩ := H2.out.cells
      have hrw := HR0.out.belowB HB2.out (by omega)
      obtain ⟨rc0, rc1, rc2, rc3, rc4, rc5, rc6, rc7, rc8, rc9, rc10, rc11⟩ := blk12 hrw
      obtain ⟨rz0, rz1, rz2, rz3, rz4, rz5, rz6, rz7, rz8, rz9, rz10, rz11⟩ := frz12 hrw
      have HRW := Lib.hid hrw
      clear hrw
      go_wp2
      (try simp only [Exit.inBlock, Exit.then])
      refine bodyPost_ret (results_cell_row rfl _ _ (w.heap.size + 1) 34 _ (0, 0) _ rfl (blk_set12 HRW.out) Try.underlying34 rfl (by kernel_rfl)) rfl ?_
      exact outs_of H2.out HRW.out HB0.out HB2.out HE.out
    · have HE : Hid (q = settle s) := by show _ = _; unfold settle; rw [if_neg (by omega), HQ.out]
      have hk5 : (s.k == 1) = false := by simpa using hk
      have hk6 : (s.k == 4) = false := by simpa using hk4
      clear hk hk4
      go_upto_region 4 with fail
      obtain ⟨tc0, tc1, tc2, tc3, tc4, tc5, tc6, tc7, tc8, tc9, tc10, tc11⟩ := H1.out.cells
      have hrw := HR0.out.belowB HBV.out (by omega)
      obtain ⟨rc0, rc1, rc2, rc3, rc4, rc5, rc6, rc7, rc8, rc9, rc10, rc11⟩ := blk12 hrw
      obtain ⟨rz0, rz1, rz2, rz3, rz4, rz5, rz6, rz7, rz8, rz9, rz10, rz11⟩ := frz12 hrw
      have HRW := Lib.hid hrw
      clear hrw
      go_wp2
      (try simp only [Exit.inBlock, Exit.then])
      refine bodyPost_ret (results_cell_row rfl _ _ (w.heap.size + 1) 34 _ (0, 0) _ rfl (blk_set12 HRW.out) Try.underlying34 rfl (by kernel_rfl)) rfl ?_
      exact outs_of H1.out HRW.out HB0.out HBV.out HE.out
end Ph
end Go.Proofs.Ytenolokklkklbaa
