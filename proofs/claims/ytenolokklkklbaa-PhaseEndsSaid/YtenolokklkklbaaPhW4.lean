/- Contracts of a kid's methods, part 1. -/
import Derived.Test.YtenolokklkklbaaPhW3
namespace Go.Proofs.Ytenolokklkklbaa
open Go.RowKit Ph
set_option linter.unusedVariables false
namespace Ph
set_option maxHeartbeats 1000000 in
set_option maxRecDepth 100000 in
theorem enter_any (s : St) (d : Int) (once : Bool) (w : World) : Calls Try.prog 19 #[.agg (stc s), .int .i64 d, .bool once] w fun e w' => Outs w (enter s d once) e w' := by
  unfold stc
  obtain ⟨V, hV⟩ : ∃ V, V = ((w.alloc (.cells #[.int .i64 s.k, .int .i64 s.m, .int .i64 s.x, .int .i64 s.y, .int .i64 s.d, .int .i64 s.e] 27)).alloc (.cells #[.int .i64 0, .int .i64 0, .int .i64 0, .int .i64 0, .int .i64 0, .int .i64 0, .slice none 0 0, .int .i64 0, .int .i64 0, .bool false, .bool false, .bool false] 34)).alloc (.cells #[.int .i64 s.k, .int .i64 s.m, .int .i64 s.x, .int .i64 s.y, .int .i64 s.d, .int .i64 s.e, .slice none 0 0, .int .i64 0, .int .i64 0, .bool false, .bool false, .bool false] 34) := ⟨_, rfl⟩
  obtain ⟨h0, hr0, hs0, hb0, hz0⟩ := start_ob w s V hV
  have HV := Lib.hid hV
  have H0 := Lib.hid h0
  have HR0 := Lib.hid hr0
  have HS0 := Lib.hid hs0
  have HB0 := Lib.hid hb0
  have HZ0 := hz0
  have HL0 : Hid (w.heap.size + 2 ≤ V.heap.size) := by show _ ≤ _; omega
  have HBV : Hid (Below (w.heap.size + 2) V V) := Below.refl _ _
  clear hV h0 hr0 hs0 hb0 hz0 HZ0
  obtain ⟨sc0, sc1, sc2, sc3, sc4, sc5⟩ := six_cells (HS0.out.belowB HBV.out (by omega))
  by_cases hk : s.k = 1
  · have HE : Hid (((mk s).report [1, 2]).begin 2 3 d once = enter s d once) := by show _ = _; unfold enter; rw [if_pos hk]
    have hk1 : (s.k == 1) = true := by simpa using hk
    clear hk
    go_enter Try.func19, Try.ntmps19
    go_upto_region 2 with fail
    rw [← HV.out]
    have C1 := Lib.hid (report_any V.heap.size 2 2 [1, 2] rfl (at_new V #[.int .i64 1, .int .i64 2] 3 _ rfl _ rfl) (by show 0 + 2 ≤ 100; omega) (H0.out.below (below_alloc V _)))
    have L1 : Hid (w.heap.size + 2 ≤ V.heap.size) := by have := H0.out.lt; have := H0.out.base; show _ ≤ _; omega
    go_wp2_with fail
    (with_reducible refine C1.out.mono ?_)
    rintro e w1 ⟨rfl, ⟨hv1, h1⟩, hb1⟩
    have H1 := Lib.hid h1
    have HB1 := Lib.hid (HBV.out.trans (((below_alloc V (.cells #[.int .i64 1, .int .i64 2] 3)).mono L1.out).trans hb1))
    clear h1 hb1 C1 L1
    have C2 := Lib.hid (begin_any 2 3 d once H1.out)
    go_wp2_with fail
    (with_reducible refine C2.out.mono ?_)
    rintro e w2 ⟨rfl, ⟨hv2, h1⟩, hb1⟩
    have H2 := Lib.hid h1
    have HB2 := Lib.hid (HB1.out.trans hb1)
    clear h1 hb1 C2
    obtain ⟨tA, tc, tv, _, _⟩ := own_slice H2.out.row
    subst tv
    obtain ⟨tc0, tc1, tc2, tc3, tc4, tc5, tc6, tc7, tc8, tc9, tc10, tc11⟩ := H2.out.cells
    have hrw := HR0.out.belowB HB2.out (by omega)
    obtain ⟨rc0, rc1, rc2, rc3, rc4, rc5, rc6, rc7, rc8, rc9, rc10, rc11⟩ := blk12 hrw
    obtain ⟨rz0, rz1, rz2, rz3, rz4, rz5, rz6, rz7, rz8, rz9, rz10, rz11⟩ := frz12 hrw
    have HRW := Lib.hid hrw
    clear hrw
    go_wp2
    (try simp only [Exit.inBlock, Exit.then])
    refine bodyPost_ret (results_cell_row rfl _ _ (w.heap.size + 1) 34 _ (0, 0) _ rfl (blk_set12 HRW.out) Try.underlying34 rfl (by kernel_rfl)) rfl ?_
    exact outs_of H2.out HRW.out HB0.out HB2.out HE.out
  · have HE : Hid (mk s = enter s d once) := by show _ = _; unfold enter; rw [if_neg hk]
    go_enter Try.func19, Try.ntmps19
    go_upto_region 2 with fail
    rw [← HV.out]
    obtain ⟨tc0, tc1, tc2, tc3, tc4, tc5, tc6, tc7, tc8, tc9, tc10, tc11⟩ := H0.out.cells
    have hrw := HR0.out.belowB HBV.out (by omega)
    obtain ⟨rc0, rc1, rc2, rc3, rc4, rc5, rc6, rc7, rc8, rc9, rc10, rc11⟩ := blk12 hrw
    obtain ⟨rz0, rz1, rz2, rz3, rz4, rz5, rz6, rz7, rz8, rz9, rz10, rz11⟩ := frz12 hrw
    have HRW := Lib.hid hrw
    clear hrw
    go_wp2
    (try simp only [Exit.inBlock, Exit.then])
    refine bodyPost_ret (results_cell_row rfl _ _ (w.heap.size + 1) 34 _ (0, 0) _ rfl (blk_set12 HRW.out) Try.underlying34 rfl (by kernel_rfl)) rfl ?_
    exact outs_of H0.out HRW.out HB0.out HBV.out HE.out
set_option maxHeartbeats 1000000 in
set_option maxRecDepth 100000 in
theorem leave_any (s : St) (d : Int) (once : Bool) (w : World) : Calls Try.prog 20 #[.agg (stc s), .int .i64 d, .bool once] w fun e w' => Outs w (leave s d once) e w' := by
  unfold stc
  obtain ⟨V, hV⟩ : ∃ V, V = ((w.alloc (.cells #[.int .i64 s.k, .int .i64 s.m, .int .i64 s.x, .int .i64 s.y, .int .i64 s.d, .int .i64 s.e] 27)).alloc (.cells #[.int .i64 0, .int .i64 0, .int .i64 0, .int .i64 0, .int .i64 0, .int .i64 0, .slice none 0 0, .int .i64 0, .int .i64 0, .bool false, .bool false, .bool false] 34)).alloc (.cells #[.int .i64 s.k, .int .i64 s.m, .int .i64 s.x, .int .i64 s.y, .int .i64 s.d, .int .i64 s.e, .slice none 0 0, .int .i64 0, .int .i64 0, .bool false, .bool false, .bool false] 34) := ⟨_, rfl⟩
  obtain ⟨h0, hr0, hs0, hb0, hz0⟩ := start_ob w s V hV
  have HV := Lib.hid hV
  have H0 := Lib.hid h0
  have HR0 := Lib.hid hr0
  have HS0 := Lib.hid hs0
  have HB0 := Lib.hid hb0
  have HZ0 := hz0
  have HL0 : Hid (w.heap.size + 2 ≤ V.heap.size) := by show _ ≤ _; omega
  have HBV : Hid (Below (w.heap.size + 2) V V) := Below.refl _ _
  clear hV h0 hr0 hs0 hb0 hz0 HZ0
  obtain ⟨sc0, sc1, sc2, sc3, sc4, sc5⟩ := six_cells (HS0.out.belowB HBV.out (by omega))
  have CM := comes_any s V
  unfold stc at CM
  cases hq : s.com
  · rw [hq] at CM
    have HCM := Lib.hid CM
    clear CM
    by_cases hk : s.k = 4
    · have HE : Hid (((((mk s).stopE).report [5, 6]).begin 5 6 d once) = leave s d once) := by show _ = _; unfold leave; rw [hq, if_pos (by simp [hk])]
      have hk1 : (s.k == 4) = true := by simpa using hk
      clear hk
      go_enter Try.func20, Try.ntmps20
      go_upto_region 2 with fail
      rw [← HV.out]
      have C1 := Lib.hid (HCM.out)
      go_wp2_with fail
      (with_reducible refine C1.out.mono ?_)
      rintro e w1 ⟨rfl, hb1⟩
      have H1 := Lib.hid (H0.out.below hb1)
      have HB1 := Lib.hid (HBV.out.trans (hb1.mono (by have := H0.out.lt; have := H0.out.base; omega)))
      clear hb1 C1
      obtain ⟨sc0, sc1, sc2, sc3, sc4, sc5⟩ := six_cells (HS0.out.belowB HB1.out (by omega))
      have C2 := Lib.hid (stopE_any (Nat.zero_le _) H1.out)
      go_wp2_with fail
      (with_reducible refine C2.out.mono ?_)
      rintro e w2 ⟨rfl, ⟨hv2, h1⟩, hb1⟩
      have H2 := Lib.hid h1
      have HB2 := Lib.hid (HB1.out.trans hb1)
      clear h1 hb1 C2
      have C3 := Lib.hid (report_any w2.heap.size 2 2 [5, 6] rfl (at_new w2 #[.int .i64 5, .int .i64 6] 3 _ rfl _ rfl) (by have := stop_len s; omega) (H2.out.below (below_alloc w2 _)))
      have L3 : Hid (w.heap.size + 2 ≤ w2.heap.size) := by have := H2.out.lt; have := H2.out.base; show _ ≤ _; omega
      go_wp2_with fail
      (with_reducible refine C3.out.mono ?_)
      rintro e w3 ⟨rfl, ⟨hv3, h1⟩, hb1⟩
      have H3 := Lib.hid h1
      have HB3 := Lib.hid (HB2.out.trans (((below_alloc w2 (.cells #[.int .i64 5, .int .i64 6] 3)).mono L3.out).trans hb1))
      clear h1 hb1 C3 L3
      have C4 := Lib.hid (begin_any 5 6 d once H3.out)
      go_wp2_with fail
      (with_reducible refine C4.out.mono ?_)
      rintro e w4 ⟨rfl, ⟨hv4, h1⟩, hb1⟩
      have H4 := Lib.hid h1
      have HB4 := Lib.hid (HB3.out.trans hb1)
      clear h1 hb1 C4
      obtain ⟨tA, tc, tv, _, _⟩ := own_slice H4.out.row
      subst tv
      obtain ⟨tc0, tc1, tc2, tc3, tc4, tc5, tc6, tc7, tc8, tc9, tc10, tc11⟩ := H4.out.cells
      have hrw := HR0.out.belowB HB4.out (by omega)
      obtain ⟨rc0, rc1, rc2, rc3, rc4, rc5, rc6, rc7, rc8, rc9, rc10, rc11⟩ := blk12 hrw
      obtain ⟨rz0, rz1, rz2, rz3, rz4, rz5, rz6, rz7, rz8, rz9, rz10, rz11⟩ := frz12 hrw
      have HRW := Lib.hid hrw
      clear hrw
      go_wp2
      (try simp only [Exit.inBlock, Exit.then])
      refine bodyPost_ret (results_cell_row rfl _ _ (w.heap.size + 1) 34 _ (0, 0) _ rfl (blk_set12 HRW.out) Try.underlying34 rfl (by kernel_rfl)) rfl ?_
      exact outs_of H4.out HRW.out HB0.out HB4.out HE.out
    · have HE : Hid (mk s = leave s d once) := by show _ = _; unfold leave; rw [hq, if_neg (by simp [hk])]
      go_enter Try.func20, Try.ntmps20
      go_upto_region 2 with fail
      rw [← HV.out]
      have C1 := Lib.hid (HCM.out)
      go_wp2_with fail
      (with_reducible refine C1.out.mono ?_)
      rintro e w1 ⟨rfl, hb1⟩
      have H1 := Lib.hid (H0.out.below hb1)
      have HB1 := Lib.hid (HBV.out.trans (hb1.mono (by have := H0.out.lt; have := H0.out.base; omega)))
      clear hb1 C1
      obtain ⟨sc0, sc1, sc2, sc3, sc4, sc5⟩ := six_cells (HS0.out.belowB HB1.out (by omega))
      obtain ⟨tc0, tc1, tc2, tc3, tc4, tc5, tc6, tc7, tc8, tc9, tc10, tc11⟩ := H1.out.cells
      have hrw := HR0.out.belowB HB1.out (by omega)
      obtain ⟨rc0, rc1, rc2, rc3, rc4, rc5, rc6, rc7, rc8, rc9, rc10, rc11⟩ := blk12 hrw
      obtain ⟨rz0, rz1, rz2, rz3, rz4, rz5, rz6, rz7, rz8, rz9, rz10, rz11⟩ := frz12 hrw
      have HRW := Lib.hid hrw
      clear hrw
      go_wp2
      (try simp only [Exit.inBlock, Exit.then])
      refine bodyPost_ret (results_cell_row rfl _ _ (w.heap.size + 1) 34 _ (0, 0) _ rfl (blk_set12 HRW.out) Try.underlying34 rfl (by kernel_rfl)) rfl ?_
      exact outs_of H1.out HRW.out HB0.out HB1.out HE.out
  · rw [hq] at CM
    have HCM := Lib.hid CM
    clear CM
    have HE : Hid (((((mk s).stopE).report [5, 6]).begin 5 6 d once) = leave s d once) := by show _ = _; unfold leave; rw [hq, if_pos (by simp)]
    go_enter Try.func20, Try.ntmps20
    go_upto_region 2 with fail
    rw [← HV.out]
    have C1 := Lib.hid (HCM.out)
    go_wp2_with fail
    (with_reducible refine C1.out.mono ?_)
    rintro e w1 ⟨rfl, hb1⟩
    have H1 := Lib.hid (H0.out.below hb1)
    have HB1 := Lib.hid (HBV.out.trans (hb1.mono (by have := H0.out.lt; have := H0.out.base; omega)))
    clear hb1 C1
    obtain ⟨sc0, sc1, sc2, sc3, sc4, sc5⟩ := six_cells (HS0.out.belowB HB1.out (by omega))
    have C2 := Lib.hid (stopE_any (Nat.zero_le _) H1.out)
    go_wp2_with fail
    (with_reducible refine C2.out.mono ?_)
    rintro e w2 ⟨rfl, ⟨hv2, h1⟩, hb1⟩
    have H2 := Lib.hid h1
    have HB2 := Lib.hid (HB1.out.trans hb1)
    clear h1 hb1 C2
    have C3 := Lib.hid (report_any w2.heap.size 2 2 [5, 6] rfl (at_new w2 #[.int .i64 5, .int .i64 6] 3 _ rfl _ rfl) (by have := stop_len s; omega) (H2.out.below (below_alloc w2 _)))
    have L3 : Hid (w.heap.size + 2 ≤ w2.heap.size) := by have := H2.out.lt; have := H2.out.base; show _ ≤ _; omega
    go_wp2_with fail
    (with_reducible refine C3.out.mono ?_)
    rintro e w3 ⟨rfl, ⟨hv3, h1⟩, hb1⟩
    have H3 := Lib.hid h1
    have HB3 := Lib.hid (HB2.out.trans (((below_alloc w2 (.cells #[.int .i64 5, .int .i64 6] 3)).mono L3.out).trans hb1))
    clear h1 hb1 C3 L3
    have C4 := Lib.hid (begin_any 5 6 d once H3.out)
    go_wp2_with fail
    (with_reducible refine C4.out.mono ?_)
    rintro e w4 ⟨rfl, ⟨hv4, h1⟩, hb1⟩
    have H4 := Lib.hid h1
    have HB4 := Lib.hid (HB3.out.trans hb1)
    clear h1 hb1 C4
    obtain ⟨tA, tc, tv, _, _⟩ := own_slice H4.out.row
    subst tv
    obtain ⟨tc0, tc1, tc2, tc3, tc4, tc5, tc6, tc7, tc8, tc9, tc10, tc11⟩ := H4.out.cells
    have hrw := HR0.out.belowB HB4.out (by omega)
    obtain ⟨rc0, rc1, rc2, rc3, rc4, rc5, rc6, rc7, rc8, rc9, rc10, rc11⟩ := blk12 hrw
    obtain ⟨rz0, rz1, rz2, rz3, rz4, rz5, rz6, rz7, rz8, rz9, rz10, rz11⟩ := frz12 hrw
    have HRW := Lib.hid hrw
    clear hrw
    go_wp2
    (try simp only [Exit.inBlock, Exit.then])
    refine bodyPost_ret (results_cell_row rfl _ _ (w.heap.size + 1) 34 _ (0, 0) _ rfl (blk_set12 HRW.out) Try.underlying34 rfl (by kernel_rfl)) rfl ?_
    exact outs_of H4.out HRW.out HB0.out HB4.out HE.out
set_option maxHeartbeats 1000000 in
set_option maxRecDepth 100000 in
theorem hold_any (s : St) (w : World) : Calls Try.prog 22 #[.agg (stc s)] w fun e w' => Outs w (hold s) e w' := by
  unfold stc
  obtain ⟨V, hV⟩ : ∃ V, V = ((w.alloc (.cells #[.int .i64 s.k, .int .i64 s.m, .int .i64 s.x, .int .i64 s.y, .int .i64 s.d, .int .i64 s.e] 27)).alloc (.cells #[.int .i64 0, .int .i64 0, .int .i64 0, .int .i64 0, .int .i64 0, .int .i64 0, .slice none 0 0, .int .i64 0, .int .i64 0, .bool false, .bool false, .bool false] 34)).alloc (.cells #[.int .i64 s.k, .int .i64 s.m, .int .i64 s.x, .int .i64 s.y, .int .i64 s.d, .int .i64 s.e, .slice none 0 0, .int .i64 0, .int .i64 0, .bool false, .bool false, .bool false] 34) := ⟨_, rfl⟩
  obtain ⟨h0, hr0, hs0, hb0, hz0⟩ := start_ob w s V hV
  have HV := Lib.hid hV
  have H0 := Lib.hid h0
  have HR0 := Lib.hid hr0
  have HS0 := Lib.hid hs0
  have HB0 := Lib.hid hb0
  have HZ0 := hz0
  have HL0 : Hid (w.heap.size + 2 ≤ V.heap.size) := by show _ ≤ _; omega
  have HBV : Hid (Below (w.heap.size + 2) V V) := Below.refl _ _
  clear hV h0 hr0 hs0 hb0 hz0 HZ0
  obtain ⟨sc0, sc1, sc2, sc3, sc4, sc5⟩ := six_cells (HS0.out.belowB HBV.out (by omega))
  have CM := comes_any s V
  unfold stc at CM
  cases hq : s.com
  · rw [hq] at CM
    have HCM := Lib.hid CM
    clear CM
    have HE : Hid (mk s = hold s) := by show _ = _; unfold hold; rw [hq, if_neg (by simp)]
    go_enter Try.func22, Try.ntmps22
    go_upto_region 2 with fail
    rw [← HV.out]
    have C1 := Lib.hid (HCM.out)
    go_wp2_with fail
    (with_reducible refine C1.out.mono ?_)
    rintro e w1 ⟨rfl, hb1⟩
    have H1 := Lib.hid (H0.out.below hb1)
    have HB1 := Lib.hid (HBV.out.trans (hb1.mono (by have := H0.out.lt; have := H0.out.base; omega)))
    clear hb1 C1
    obtain ⟨tc0, tc1, tc2, tc3, tc4, tc5, tc6, tc7, tc8, tc9, tc10, tc11⟩ := H1.out.cells
    have hrw := HR0.out.belowB HB1.out (by omega)
    obtain ⟨rc0, rc1, rc2, rc3, rc4, rc5, rc6, rc7, rc8, rc9, rc10, rc11⟩ := blk12 hrw
    obtain ⟨rz0, rz1, rz2, rz3, rz4, rz5, rz6, rz7, rz8, rz9, rz10, rz11⟩ := frz12 hrw
    have HRW := Lib.hid hrw
    clear hrw
    go_wp2
    (try simp only [Exit.inBlock, Exit.then])
    refine bodyPost_ret (results_cell_row rfl _ _ (w.heap.size + 1) 34 _ (0, 0) _ rfl (blk_set12 HRW.out) Try.underlying34 rfl (by kernel_rfl)) rfl ?_
    exact outs_of H1.out HRW.out HB0.out HB1.out HE.out
  · rw [hq] at CM
    have HCM := Lib.hid CM
    clear CM
    have HE : Hid ((((mk s).stopE).become 4).endMove = hold s) := by show _ = _; unfold hold; rw [hq, if_pos rfl]
    go_enter Try.func22, Try.ntmps22
    go_upto_region 2 with fail
    rw [← HV.out]
    have C1 := Lib.hid (HCM.out)
    go_wp2_with fail
    (with_reducible refine C1.out.mono ?_)
    rintro e w1 ⟨rfl, hb1⟩
    have H1 := Lib.hid (H0.out.below hb1)
    have HB1 := Lib.hid (HBV.out.trans (hb1.mono (by have := H0.out.lt; have := H0.out.base; omega)))
    clear hb1 C1
    have C2 := Lib.hid (stopE_any (Nat.zero_le _) H1.out)
    go_wp2_with fail
    (with_reducible refine C2.out.mono ?_)
    rintro e w2 ⟨rfl, ⟨hv2, h1⟩, hb1⟩
    have H2 := Lib.hid h1
    have HB2 := Lib.hid (HB1.out.trans hb1)
    clear h1 hb1 C2
    have C3 := Lib.hid (become_any 4 H2.out)
    go_wp2_with fail
    (with_reducible refine C3.out.mono ?_)
    rintro e w3 ⟨rfl, h1, hb1⟩
    have H3 := Lib.hid h1
    have HB3 := Lib.hid (HB2.out.trans hb1)
    clear h1 hb1 C3
    have C4 := Lib.hid (endMove_any H3.out)
    go_wp2_with fail
    (with_reducible refine C4.out.mono ?_)
    rintro e w4 ⟨rfl, h1, hb1⟩
    have H4 := Lib.hid h1
    have HB4 := Lib.hid (HB3.out.trans hb1)
    clear h1 hb1 C4
    obtain ⟨tA, tc, tv, _, _⟩ := own_slice H4.out.row
    subst tv
    obtain ⟨tc0, tc1, tc2, tc3, tc4, tc5, tc6, tc7, tc8, tc9, tc10, tc11⟩ := H4.out.cells
    have hrw := HR0.out.belowB HB4.out (by omega)
    obtain ⟨rc0, rc1, rc2, rc3, rc4, rc5, rc6, rc7, rc8, rc9, rc10, rc11⟩ := blk12 hrw
    obtain ⟨rz0, rz1, rz2, rz3, rz4, rz5, rz6, rz7, rz8, rz9, rz10, rz11⟩ := frz12 hrw
    have HRW := Lib.hid hrw
    clear hrw
    go_wp2
    (try simp only [Exit.inBlock, Exit.then])
    refine bodyPost_ret (results_cell_row rfl _ _ (w.heap.size + 1) 34 _ (0, 0) _ rfl (blk_set12 HRW.out) Try.underlying34 rfl (by kernel_rfl)) rfl ?_
    exact outs_of H4.out HRW.out HB0.out HB4.out HE.out
end Ph
end Go.Proofs.Ytenolokklkklbaa
