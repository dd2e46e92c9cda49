/- Contracts of a kid's methods, part 2. -/
import Derived.Test.YtenolokklkklbaaPhW3
namespace Go.Proofs.Ytenolokklkklbaa
open Go.RowKit Ph
set_option linter.unusedVariables false
namespace Ph
set_option maxHeartbeats 1000000 in
set_option maxRecDepth 100000 in
theorem ret_any (s : St) (w : World) : Calls Try.prog 23 #[.agg (stc s)] w fun e w' => Outs w (ret s) e w' := by
  unfold stc
  obtain ⟨V, hV⟩ : ∃ V, V = ((w.alloc (.cells #[.int .i64 s.k, .int .i64 s.m, .int .i64 s.x, .int .i64 s.y, .int .i64 s.d, .int .i64 s.e] 27)).alloc (.cells #[.int .i64 0, .int .i64 0, .int .i64 0, .int .i64 0, .int .i64 0, .int .i64 0, .slice none 0 0, .int .i64 0, .int .i64 0, .bool false, .bool false, .bool false] 34)).alloc (.cells #[.int .i64 s.k, .int .i64 s.m, .int .i64 s.x, .int .i64 s.y, .int .i64 s.d, .int .i64 s.e, .slice none 0 0, .int .i64 0, .int .i64 0, .bool false, .bool false, .bool false] 34) := ⟨_, rfl⟩
  obtain ⟨h0, hr0, hs0, hb0, hz0⟩ := start_ob w s V hV
  have HV := Lib.hid hV
  have H0 := Lib.hid h0
  have HR0 := Lib.hid hr0
  have HS0 := Lib.hid hs0
  have HB0 := Lib.hid hb0
  have HZ0 := hz0
  have HL0 : Hid (w.heap.size + 2 ≤ V.heap.size) := by show _ ≤ _; omega
  have HBV : Hid (Below (w.heap.size + 2) V V) := Below.refl _ _
  clear hV h0 hr0 hs0 hb0 hz0 HZ0
  obtain ⟨sc0, sc1, sc2, sc3, sc4, sc5⟩ := six_cells (HS0.out.belowB HBV.out (by omega))
  have CL := leaving_any s.k s.m s.x s.y V
  have hql : s.lea = (decide (s.k = 5) || decide (s.k = 6)) := rfl
  rw [← hql] at CL
  cases hq : s.lea
  · rw [hq] at CL
    have HCL := Lib.hid CL
    clear CL hql
    by_cases hk : s.k = 4
    · have HE : Hid ((mk s).kind 0 = ret s) := by show _ = _; unfold ret; rw [hq, if_neg (by simp), if_pos hk]
      have hk1 : (s.k == 4) = true := by simpa using hk
      clear hk
      go_enter Try.func23, Try.ntmps23
      go_upto_region 2 with fail
      rw [← HV.out]
      have C1 := Lib.hid (HCL.out)
      go_wp2_with fail
      (with_reducible refine C1.out.mono ?_)
      rintro e w1 ⟨rfl, hb1⟩
      have H1 := Lib.hid (H0.out.below hb1)
      have HB1 := Lib.hid (HBV.out.trans (hb1.mono (by have := H0.out.lt; have := H0.out.base; omega)))
      clear hb1 C1
      obtain ⟨sc0, sc1, sc2, sc3, sc4, sc5⟩ := six_cells (HS0.out.belowB HB1.out (by omega))
      obtain ⟨uc0, _⟩ := H1.out.cells
      obtain ⟨uz0, _⟩ := H1.out.frz
      have h2 := H1.out.put 0 (.int .i64 0) (o' := (mk s).kind 0) rfl rfl
      obtain ⟨w2, hw2⟩ : ∃ w2, w2 = w1.setCell ⟨w.heap.size + 2, 0, none⟩ (.int .i64 0) := ⟨_, rfl⟩
      rw [← hw2] at h2
      have HW2 := Lib.hid hw2
      have H2 := Lib.hid h2
      have HB2 : Hid (Below (w.heap.size + 2) V w2) := by show Below _ _ _; rw [hw2]; exact bset' HB1.out (Nat.le_refl _) _ _
      clear hw2 h2
      go_upto_region 7 with fail
      rw [← HW2.out]
      obtain ⟨tc0, tc1, tc2, tc3, tc4, tc5, tc6, tc7, tc8, tc9, tc10, tc11⟩ := H2.out.cells
      have hrw := HR0.out.belowB HB2.out (by omega)
      obtain ⟨rc0, rc1, rc2, rc3, rc4, rc5, rc6, rc7, rc8, rc9, rc10, rc11⟩ := blk12 hrw
      obtain ⟨rz0, rz1, rz2, rz3, rz4, rz5, rz6, rz7, rz8, rz9, rz10, rz11⟩ := frz12 hrw
      have HRW := Lib.hid hrw
      clear hrw
      go_wp2
      (try simp only [Exit.inBlock, Exit.then])
      refine bodyPost_ret (results_cell_row rfl _ _ (w.heap.size + 1) 34 _ (0, 0) _ rfl (blk_set12 HRW.out) Try.underlying34 rfl (by kernel_rfl)) rfl ?_
      exact outs_of H2.out HRW.out HB0.out HB2.out HE.out
    · have HE : Hid (mk s = ret s) := by show _ = _; unfold ret; rw [hq, if_neg (by simp), if_neg hk]
      go_enter Try.func23, Try.ntmps23
      go_upto_region 2 with fail
      rw [← HV.out]
      have C1 := Lib.hid (HCL.out)
      go_wp2_with fail
      (with_reducible refine C1.out.mono ?_)
      rintro e w1 ⟨rfl, hb1⟩
      have H1 := Lib.hid (H0.out.below hb1)
      have HB1 := Lib.hid (HBV.out.trans (hb1.mono (by have := H0.out.lt; have := H0.out.base; omega)))
      clear hb1 C1
      obtain ⟨sc0, sc1, sc2, sc3, sc4, sc5⟩ := six_cells (HS0.out.belowB HB1.out (by omega))
      obtain ⟨tc0, tc1, tc2, tc3, tc4, tc5, tc6, tc7, tc8, tc9, tc10, tc11⟩ := H1.out.cells
      have hrw := HR0.out.belowB HB1.out (by omega)
      obtain ⟨rc0, rc1, rc2, rc3, rc4, rc5, rc6, rc7, rc8, rc9, rc10, rc11⟩ := blk12 hrw
      obtain ⟨rz0, rz1, rz2, rz3, rz4, rz5, rz6, rz7, rz8, rz9, rz10, rz11⟩ := frz12 hrw
      have HRW := Lib.hid hrw
      clear hrw
      go_wp2
      (try simp only [Exit.inBlock, Exit.then])
      refine bodyPost_ret (results_cell_row rfl _ _ (w.heap.size + 1) 34 _ (0, 0) _ rfl (blk_set12 HRW.out) Try.underlying34 rfl (by kernel_rfl)) rfl ?_
      exact outs_of H1.out HRW.out HB0.out HB1.out HE.out
  · rw [hq] at CL
    have HCL := Lib.hid CL
    clear CL hql
    have HE : Hid (((mk s).fin 8).become 1 = ret s) := by show _ = _; unfold ret; rw [hq, if_pos rfl]
    go_enter Try.func23, Try.ntmps23
    go_upto_region 2 with fail
    rw [← HV.out]
    have C1 := Lib.hid (HCL.out)
    go_wp2_with fail
    (with_reducible refine C1.out.mono ?_)
    rintro e w1 ⟨rfl, hb1⟩
    have H1 := Lib.hid (H0.out.below hb1)
    have HB1 := Lib.hid (HBV.out.trans (hb1.mono (by have := H0.out.lt; have := H0.out.base; omega)))
    clear hb1 C1
    have C2 := Lib.hid (fin_any 8 (Nat.zero_le _) H1.out)
    go_wp2_with fail
    (with_reducible refine C2.out.mono ?_)
    rintro e w2 ⟨rfl, ⟨hv2, h1⟩, hb1⟩
    have H2 := Lib.hid h1
    have HB2 := Lib.hid (HB1.out.trans hb1)
    clear h1 hb1 C2
    have C3 := Lib.hid (become_any 1 H2.out)
    go_wp2_with fail
    (with_reducible refine C3.out.mono ?_)
    rintro e w3 ⟨rfl, h1, hb1⟩
    have H3 := Lib.hid h1
    have HB3 := Lib.hid (HB2.out.trans hb1)
    clear h1 hb1 C3
    obtain ⟨tA, tc, tv, _, _⟩ := own_slice H3.out.row
    subst tv
    obtain ⟨tc0, tc1, tc2, tc3, tc4, tc5, tc6, tc7, tc8, tc9, tc10, tc11⟩ := H3.out.cells
    have hrw := HR0.out.belowB HB3.out (by omega)
    obtain ⟨rc0, rc1, rc2, rc3, rc4, rc5, rc6, rc7, rc8, rc9, rc10, rc11⟩ := blk12 hrw
    obtain ⟨rz0, rz1, rz2, rz3, rz4, rz5, rz6, rz7, rz8, rz9, rz10, rz11⟩ := frz12 hrw
    have HRW := Lib.hid hrw
    clear hrw
    go_wp2
    (try simp only [Exit.inBlock, Exit.then])
    refine bodyPost_ret (results_cell_row rfl _ _ (w.heap.size + 1) 34 _ (0, 0) _ rfl (blk_set12 HRW.out) Try.underlying34 rfl (by kernel_rfl)) rfl ?_
    exact outs_of H3.out HRW.out HB0.out HB3.out HE.out
set_option maxHeartbeats 1000000 in
set_option maxRecDepth 100000 in
theorem frame_any (s : St) (w : World) : Calls Try.prog 14 #[.agg (stc s)] w fun e w' => Outs w (frame s) e w' := by
  unfold stc
  obtain ⟨V, hV⟩ : ∃ V, V = ((w.alloc (.cells #[.int .i64 s.k, .int .i64 s.m, .int .i64 s.x, .int .i64 s.y, .int .i64 s.d, .int .i64 s.e] 27)).alloc (.cells #[.int .i64 0, .int .i64 0, .int .i64 0, .int .i64 0, .int .i64 0, .int .i64 0, .slice none 0 0, .int .i64 0, .int .i64 0, .bool false, .bool false, .bool false] 34)).alloc (.cells #[.int .i64 s.k, .int .i64 s.m, .int .i64 s.x, .int .i64 s.y, .int .i64 s.d, .int .i64 s.e, .slice none 0 0, .int .i64 0, .int .i64 0, .bool false, .bool false, .bool false] 34) := ⟨_, rfl⟩
  obtain ⟨h0, hr0, hs0, hb0, hz0⟩ := start_ob w s V hV
  have HV := Lib.hid hV
  have H0 := Lib.hid h0
  have HR0 := Lib.hid hr0
  have HS0 := Lib.hid hs0
  have HB0 := Lib.hid hb0
  have HZ0 := hz0
  have HL0 : Hid (w.heap.size + 2 ≤ V.heap.size) := by show _ ≤ _; omega
  have HBV : Hid (Below (w.heap.size + 2) V V) := Below.refl _ _
  clear hV h0 hr0 hs0 hb0 hz0 HZ0
  obtain ⟨sc0, sc1, sc2, sc3, sc4, sc5⟩ := six_cells (HS0.out.belowB HBV.out (by omega))
  by_cases hk : s.k = 2
  · have HE : Hid (((mk s).kind 3).job 2 = frame s) := by show _ = _; unfold frame; rw [if_pos hk]
    have hk1 : (s.k == 2) = true := by simpa using hk
    clear hk
    go_enter Try.func14, Try.ntmps14
    go_upto_region 2 with fail
    rw [← HV.out]
    obtain ⟨uc0, uc1, uc2, uc3, uc4, uc5, uc6, uc7, uc8, uc9, uc10, uc11⟩ := H0.out.cells
    obtain ⟨uz0, uz1, uz2, uz3, uz4, uz5, uz6, uz7, uz8, uz9, uz10, uz11⟩ := H0.out.frz
    have h2 := ((H0.out.put 0 (.int .i64 3) (o' := (mk s).kind 3) rfl rfl).put 7 (.int .i64 2) (o' := ((mk s).kind 3).job 2) rfl rfl)
    obtain ⟨w1, hw2⟩ : ∃ w2, w2 = ((V.setCell ⟨w.heap.size + 2, 0, none⟩ (.int .i64 3)).setCell ⟨w.heap.size + 2, 7, none⟩ (.int .i64 2)) := ⟨_, rfl⟩
    rw [← hw2] at h2
    have HW1 := Lib.hid hw2
    have H1 := Lib.hid h2
    have HB1 : Hid (Below (w.heap.size + 2) V w1) := by show Below _ _ _; rw [hw2]; exact (bset' (bset' HBV.out (Nat.le_refl _) _ _) (Nat.le_refl _) _ _)
    clear hw2 h2
    go_upto_region 7 with fail
    rw [← HW1.out]
    obtain ⟨tc0, tc1, tc2, tc3, tc4, tc5, tc6, tc7, tc8, tc9, tc10, tc11⟩ := H1.out.cells
    have hrw := HR0.out.belowB HB1.out (by omega)
    obtain ⟨rc0, rc1, rc2, rc3, rc4, rc5, rc6, rc7, rc8, rc9, rc10, rc11⟩ := blk12 hrw
    obtain ⟨rz0, rz1, rz2, rz3, rz4, rz5, rz6, rz7, rz8, rz9, rz10, rz11⟩ := frz12 hrw
    have HRW := Lib.hid hrw
    clear hrw
    go_wp2
    (try simp only [Exit.inBlock, Exit.then])
    refine bodyPost_ret (results_cell_row rfl _ _ (w.heap.size + 1) 34 _ (0, 0) _ rfl (blk_set12 HRW.out) Try.underlying34 rfl (by kernel_rfl)) rfl ?_
    exact outs_of H1.out HRW.out HB0.out HB1.out HE.out
  · by_cases hk : s.k = 5
    · have HE : Hid (((mk s).kind 6).job 2 = frame s) := by show _ = _; unfold frame; rw [if_neg (by assumption), if_pos hk]
      have hk1 : (s.k == 5) = true := by simpa using hk
      clear hk
      go_enter Try.func14, Try.ntmps14
      go_upto_region 2 with fail
      rw [← HV.out]
      obtain ⟨uc0, uc1, uc2, uc3, uc4, uc5, uc6, uc7, uc8, uc9, uc10, uc11⟩ := H0.out.cells
      obtain ⟨uz0, uz1, uz2, uz3, uz4, uz5, uz6, uz7, uz8, uz9, uz10, uz11⟩ := H0.out.frz
      have h2 := ((H0.out.put 0 (.int .i64 6) (o' := (mk s).kind 6) rfl rfl).put 7 (.int .i64 2) (o' := ((mk s).kind 6).job 2) rfl rfl)
      obtain ⟨w1, hw2⟩ : ∃ w2, w2 = ((V.setCell ⟨w.heap.size + 2, 0, none⟩ (.int .i64 6)).setCell ⟨w.heap.size + 2, 7, none⟩ (.int .i64 2)) := ⟨_, rfl⟩
      rw [← hw2] at h2
      have HW1 := Lib.hid hw2
      have H1 := Lib.hid h2
      have HB1 : Hid (Below (w.heap.size + 2) V w1) := by show Below _ _ _; rw [hw2]; exact (bset' (bset' HBV.out (Nat.le_refl _) _ _) (Nat.le_refl _) _ _)
      clear hw2 h2
      go_upto_region 7 with fail
      rw [← HW1.out]
      obtain ⟨tc0, tc1, tc2, tc3, tc4, tc5, tc6, tc7, tc8, tc9, tc10, tc11⟩ := H1.out.cells
      have hrw := HR0.out.belowB HB1.out (by omega)
      obtain ⟨rc0, rc1, rc2, rc3, rc4, rc5, rc6, rc7, rc8, rc9, rc10, rc11⟩ := blk12 hrw
      obtain ⟨rz0, rz1, rz2, rz3, rz4, rz5, rz6, rz7, rz8, rz9, rz10, rz11⟩ := frz12 hrw
      have HRW := Lib.hid hrw
      clear hrw
      go_wp2
      (try simp only [Exit.inBlock, Exit.then])
      refine bodyPost_ret (results_cell_row rfl _ _ (w.heap.size + 1) 34 _ (0, 0) _ rfl (blk_set12 HRW.out) Try.underlying34 rfl (by kernel_rfl)) rfl ?_
      exact outs_of H1.out HRW.out HB0.out HB1.out HE.out
    · have HE : Hid (mk s = frame s) := by show _ = _; unfold frame; rw [if_neg (by assumption), if_neg hk]
      go_enter Try.func14, Try.ntmps14
      go_upto_region 2 with fail
      rw [← HV.out]
      obtain ⟨tc0, tc1, tc2, tc3, tc4, tc5, tc6, tc7, tc8, tc9, tc10, tc11⟩ := H0.out.cells
      have hrw := HR0.out.belowB HBV.out (by omega)
      obtain ⟨rc0, rc1, rc2, rc3, rc4, rc5, rc6, rc7, rc8, rc9, rc10, rc11⟩ := blk12 hrw
      obtain ⟨rz0, rz1, rz2, rz3, rz4, rz5, rz6, rz7, rz8, rz9, rz10, rz11⟩ := frz12 hrw
      have HRW := Lib.hid hrw
      clear hrw
      go_wp2
      (try simp only [Exit.inBlock, Exit.then])
      refine bodyPost_ret (results_cell_row rfl _ _ (w.heap.size + 1) 34 _ (0, 0) _ rfl (blk_set12 HRW.out) Try.underlying34 rfl (by kernel_rfl)) rfl ?_
      exact outs_of H0.out HRW.out HB0.out HBV.out HE.out
set_option maxHeartbeats 1000000 in
set_option maxRecDepth 100000 in
theorem finish_any (s : St) (w : World) : Calls Try.prog 16 #[.agg (stc s)] w fun e w' => Outs w (finish s) e w' := by
  unfold stc
  obtain ⟨V, hV⟩ : ∃ V, V = ((w.alloc (.cells #[.int .i64 s.k, .int .i64 s.m, .int .i64 s.x, .int .i64 s.y, .int .i64 s.d, .int .i64 s.e] 27)).alloc (.cells #[.int .i64 0, .int .i64 0, .int .i64 0, .int .i64 0, .int .i64 0, .int .i64 0, .slice none 0 0, .int .i64 0, .int .i64 0, .bool false, .bool false, .bool false] 34)).alloc (.cells #[.int .i64 s.k, .int .i64 s.m, .int .i64 s.x, .int .i64 s.y, .int .i64 s.d, .int .i64 s.e, .slice none 0 0, .int .i64 0, .int .i64 0, .bool false, .bool false, .bool false] 34) := ⟨_, rfl⟩
  obtain ⟨h0, hr0, hs0, hb0, hz0⟩ := start_ob w s V hV
  have HV := Lib.hid hV
  have H0 := Lib.hid h0
  have HR0 := Lib.hid hr0
  have HS0 := Lib.hid hs0
  have HB0 := Lib.hid hb0
  have HZ0 := hz0
  have HL0 : Hid (w.heap.size + 2 ≤ V.heap.size) := by show _ ≤ _; omega
  have HBV : Hid (Below (w.heap.size + 2) V V) := Below.refl _ _
  clear hV h0 hr0 hs0 hb0 hz0 HZ0
  obtain ⟨sc0, sc1, sc2, sc3, sc4, sc5⟩ := six_cells (HS0.out.belowB HBV.out (by omega))
  by_cases hk : s.k = 3
  · have HE : Hid (((mk s).fin 3).become 0 = finish s) := by show _ = _; unfold finish; rw [if_pos hk]
    have hk1 : (s.k == 3) = true := by simpa using hk
    clear hk
    go_enter Try.func16, Try.ntmps16
    go_upto_region 2 with fail
    rw [← HV.out]
    have C1 := Lib.hid (fin_any 3 (Nat.zero_le _) H0.out)
    go_wp2_with fail
    (with_reducible refine C1.out.mono ?_)
    rintro e w1 ⟨rfl, ⟨hv1, h1⟩, hb1⟩
    have H1 := Lib.hid h1
    have HB1 := Lib.hid (HBV.out.trans hb1)
    clear h1 hb1 C1
    have C2 := Lib.hid (become_any 0 H1.out)
    go_wp2_with fail
    (with_reducible refine C2.out.mono ?_)
    rintro e w2 ⟨rfl, h1, hb1⟩
    have H2 := Lib.hid h1
    have HB2 := Lib.hid (HB1.out.trans hb1)
    clear h1 hb1 C2
    obtain ⟨tA, tc, tv, _, _⟩ := own_slice H2.out.row
    subst tv
    obtain ⟨tc0, tc1, tc2, tc3, tc4, tc5, tc6, tc7, tc8, tc9, tc10, tc11⟩ := H2.out.cells
    have hrw := HR0.out.belowB HB2.out (by omega)
    obtain ⟨rc0, rc1, rc2, rc3, rc4, rc5, rc6, rc7, rc8, rc9, rc10, rc11⟩ := blk12 hrw
    obtain ⟨rz0, rz1, rz2, rz3, rz4, rz5, rz6, rz7, rz8, rz9, rz10, rz11⟩ := frz12 hrw
    have HRW := Lib.hid hrw
    clear hrw
    go_wp2
    (try simp only [Exit.inBlock, Exit.then])
    refine bodyPost_ret (results_cell_row rfl _ _ (w.heap.size + 1) 34 _ (0, 0) _ rfl (blk_set12 HRW.out) Try.underlying34 rfl (by kernel_rfl)) rfl ?_
    exact outs_of H2.out HRW.out HB0.out HB2.out HE.out
  · by_cases hk : s.k = 6
    · have HE : Hid ((mk s).vanish = finish s) := by show _ = _; unfold finish; rw [if_neg (by assumption), if_pos hk]
      have hk1 : (s.k == 6) = true := by simpa using hk
      clear hk
      go_enter Try.func16, Try.ntmps16
      go_upto_region 2 with fail
      rw [← HV.out]
      have C1 := Lib.hid (vanish_any (Nat.zero_le _) H0.out)
      go_wp2_with fail
      (with_reducible refine C1.out.mono ?_)
      rintro e w1 ⟨rfl, ⟨hv1, h1⟩, hb1⟩
      have H1 := Lib.hid h1
      have HB1 := Lib.hid (HBV.out.trans hb1)
      clear h1 hb1 C1
      obtain ⟨tA, tc, tv, _, _⟩ := own_slice H1.out.row
      subst tv
      obtain ⟨tc0, tc1, tc2, tc3, tc4, tc5, tc6, tc7, tc8, tc9, tc10, tc11⟩ := H1.out.cells
      have hrw := HR0.out.belowB HB1.out (by omega)
      obtain ⟨rc0, rc1, rc2, rc3, rc4, rc5, rc6, rc7, rc8, rc9, rc10, rc11⟩ := blk12 hrw
      obtain ⟨rz0, rz1, rz2, rz3, rz4, rz5, rz6, rz7, rz8, rz9, rz10, rz11⟩ := frz12 hrw
      have HRW := Lib.hid hrw
      clear hrw
      go_wp2
      (try simp only [Exit.inBlock, Exit.then])
      refine bodyPost_ret (results_cell_row rfl _ _ (w.heap.size + 1) 34 _ (0, 0) _ rfl (blk_set12 HRW.out) Try.underlying34 rfl (by kernel_rfl)) rfl ?_
      exact outs_of H1.out HRW.out HB0.out HB1.out HE.out
    · have HE : Hid (mk s = finish s) := by show _ = _; unfold finish; rw [if_neg (by assumption), if_neg hk]
      go_enter Try.func16, Try.ntmps16
      go_upto_region 2 with fail
      rw [← HV.out]
      obtain ⟨tc0, tc1, tc2, tc3, tc4, tc5, tc6, tc7, tc8, tc9, tc10, tc11⟩ := H0.out.cells
      have hrw := HR0.out.belowB HBV.out (by omega)
      obtain ⟨rc0, rc1, rc2, rc3, rc4, rc5, rc6, rc7, rc8, rc9, rc10, rc11⟩ := blk12 hrw
      obtain ⟨rz0, rz1, rz2, rz3, rz4, rz5, rz6, rz7, rz8, rz9, rz10, rz11⟩ := frz12 hrw
      have HRW := Lib.hid hrw
      clear hrw
      go_wp2
      (try simp only [Exit.inBlock, Exit.then])
      refine bodyPost_ret (results_cell_row rfl _ _ (w.heap.size + 1) 34 _ (0, 0) _ rfl (blk_set12 HRW.out) Try.underlying34 rfl (by kernel_rfl)) rfl ?_
      exact outs_of H0.out HRW.out HB0.out HBV.out HE.out
set_option maxHeartbeats 1000000 in
set_option maxRecDepth 100000 in
theorem moveFrame_any (s : St) (w : World) : Calls Try.prog 15 #[.agg (stc s)] w fun e w' => Outs w (moveFrame s) e w' := by
  unfold stc
  obtain ⟨V, hV⟩ : ∃ V, V = ((w.alloc (.cells #[.int .i64 s.k, .int .i64 s.m, .int .i64 s.x, .int .i64 s.y, .int .i64 s.d, .int .i64 s.e] 27)).alloc (.cells #[.int .i64 0, .int .i64 0, .int .i64 0, .int .i64 0, .int .i64 0, .int .i64 0, .slice none 0 0, .int .i64 0, .int .i64 0, .bool false, .bool false, .bool false] 34)).alloc (.cells #[.int .i64 s.k, .int .i64 s.m, .int .i64 s.x, .int .i64 s.y, .int .i64 s.d, .int .i64 s.e, .slice none 0 0, .int .i64 0, .int .i64 0, .bool false, .bool false, .bool false] 34) := ⟨_, rfl⟩
  obtain ⟨h0, hr0, hs0, hb0, hz0⟩ := start_ob w s V hV
  have HV := Lib.hid hV
  have H0 := Lib.hid h0
  have HR0 := Lib.hid hr0
  have HS0 := Lib.hid hs0
  have HB0 := Lib.hid hb0
  have HZ0 := hz0
  have HL0 : Hid (w.heap.size + 2 ≤ V.heap.size) := by show _ ≤ _; omega
  have HBV : Hid (Below (w.heap.size + 2) V V) := Below.refl _ _
  clear hV h0 hr0 hs0 hb0 hz0 HZ0
  obtain ⟨sc0, sc1, sc2, sc3, sc4, sc5⟩ := six_cells (HS0.out.belowB HBV.out (by omega))
  by_cases hk : s.m = 1
  · have HE : Hid ((mk s).back = moveFrame s) := by show _ = _; unfold moveFrame; rw [if_pos hk]
    have hk1 : (s.m == 1) = true := by simpa using hk
    clear hk
    go_enter Try.func15, Try.ntmps15
    go_upto_region 2 with fail
    rw [← HV.out]
    obtain ⟨uc0, uc1, uc2, uc3, uc4, uc5, uc6, uc7, uc8, uc9, uc10, uc11⟩ := H0.out.cells
    obtain ⟨uz0, uz1, uz2, uz3, uz4, uz5, uz6, uz7, uz8, uz9, uz10, uz11⟩ := H0.out.frz
    have h2 := (((((H0.out.put 0 (.int .i64 s.k) (o' := mk s) rfl rfl).put 1 (.int .i64 2) (o' := ⟨⟨s.k, 2, s.x, s.y, s.d, s.e⟩, [], 0, 0, false, false, false⟩) rfl rfl).put 2 (.int .i64 0) (o' := ⟨⟨s.k, 2, 0, s.y, s.d, s.e⟩, [], 0, 0, false, false, false⟩) rfl rfl).put 3 (.int .i64 0) (o' := ⟨⟨s.k, 2, 0, 0, s.d, s.e⟩, [], 0, 0, false, false, false⟩) rfl rfl).put 8 (.int .i64 2) (o' := (mk s).back) rfl rfl)
    obtain ⟨w1, hw2⟩ : ∃ w2, w2 = (((((V.setCell ⟨w.heap.size + 2, 0, none⟩ (.int .i64 s.k)).setCell ⟨w.heap.size + 2, 1, none⟩ (.int .i64 2)).setCell ⟨w.heap.size + 2, 2, none⟩ (.int .i64 0)).setCell ⟨w.heap.size + 2, 3, none⟩ (.int .i64 0)).setCell ⟨w.heap.size + 2, 8, none⟩ (.int .i64 2)) := ⟨_, rfl⟩
    rw [← hw2] at h2
    have HW1 := Lib.hid hw2
    have H1 := Lib.hid h2
    have HB1 : Hid (Below (w.heap.size + 2) V w1) := by show Below _ _ _; rw [hw2]; exact (bset' (bset' (bset' (bset' (bset' HBV.out (Nat.le_refl _) _ _) (Nat.le_refl _) _ _) (Nat.le_refl _) _ _) (Nat.le_refl _) _ _) (Nat.le_refl _) _ _)
    clear hw2 h2
    go_upto_region 5 with fail
    rw [← HW1.out]
    obtain ⟨tc0, tc1, tc2, tc3, tc4, tc5, tc6, tc7, tc8, tc9, tc10, tc11⟩ := H1.out.cells
    have hrw := HR0.out.belowB HB1.out (by omega)
    obtain ⟨rc0, rc1, rc2, rc3, rc4, rc5, rc6, rc7, rc8, rc9, rc10, rc11⟩ := blk12 hrw
    obtain ⟨rz0, rz1, rz2, rz3, rz4, rz5, rz6, rz7, rz8, rz9, rz10, rz11⟩ := frz12 hrw
    have HRW := Lib.hid hrw
    clear hrw
    go_wp2
    (try simp only [Exit.inBlock, Exit.then])
    refine bodyPost_ret (results_cell_row rfl _ _ (w.heap.size + 1) 34 _ (0, 0) _ rfl (blk_set12 HRW.out) Try.underlying34 rfl (by kernel_rfl)) rfl ?_
    exact outs_of H1.out HRW.out HB0.out HB1.out HE.out
  · have HE : Hid (mk s = moveFrame s) := by show _ = _; unfold moveFrame; rw [if_neg hk]
    go_enter Try.func15, Try.ntmps15
    go_upto_region 2 with fail
    rw [← HV.out]
    obtain ⟨tc0, tc1, tc2, tc3, tc4, tc5, tc6, tc7, tc8, tc9, tc10, tc11⟩ := H0.out.cells
    have hrw := HR0.out.belowB HBV.out (by omega)
    obtain ⟨rc0, rc1, rc2, rc3, rc4, rc5, rc6, rc7, rc8, rc9, rc10, rc11⟩ := blk12 hrw
    obtain ⟨rz0, rz1, rz2, rz3, rz4, rz5, rz6, rz7, rz8, rz9, rz10, rz11⟩ := frz12 hrw
    have HRW := Lib.hid hrw
    clear hrw
    go_wp2
    (try simp only [Exit.inBlock, Exit.then])
    refine bodyPost_ret (results_cell_row rfl _ _ (w.heap.size + 1) 34 _ (0, 0) _ rfl (blk_set12 HRW.out) Try.underlying34 rfl (by kernel_rfl)) rfl ?_
    exact outs_of H0.out HRW.out HB0.out HBV.out HE.out
end Ph
end Go.Proofs.Ytenolokklkklbaa
