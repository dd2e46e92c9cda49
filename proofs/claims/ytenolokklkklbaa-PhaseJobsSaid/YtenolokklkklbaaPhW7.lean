/- Contract of the statements' Do: a call by its number. -/
import Derived.Test.YtenolokklkklbaaPhW4
import Derived.Test.YtenolokklkklbaaPhW5
import Derived.Test.YtenolokklkklbaaPhW6
namespace Go.Proofs.Ytenolokklkklbaa
open Go.RowKit Ph
set_option linter.unusedVariables false
namespace Ph
def acc (a : Ac) : Array Value := #[.int .i64 a.c, .int .i64 a.d, .int .i64 a.x, .int .i64 a.y, .bool a.o]
theorem outs_do {V w w' : World} {o o' : Ou} {hv : Value} {t : TypeId} {ys : Array Value} {x0 x1 x2 x3 x4 x5 x6 x7 x8 x9 x10 x11 : Value} (hr : Blk w (w'.heap.size + 2) t ys) (ho : w.ownsRow (w'.heap.size + 3) 3 1 hv o.h.length (iv o.h)) (hb0 : Below w'.heap.size w' V) (hb : Below (w'.heap.size + 3) V w) (e : o = o') :
    Outs w' o' (.returned (.agg (ouc o hv))) ((((((((((((w.setCell ⟨w'.heap.size + 2, 0, none⟩ x0).setCell ⟨w'.heap.size + 2, 1, none⟩ x1).setCell ⟨w'.heap.size + 2, 2, none⟩ x2).setCell ⟨w'.heap.size + 2, 3, none⟩ x3).setCell ⟨w'.heap.size + 2, 4, none⟩ x4).setCell ⟨w'.heap.size + 2, 5, none⟩ x5).setCell ⟨w'.heap.size + 2, 6, none⟩ x6).setCell ⟨w'.heap.size + 2, 7, none⟩ x7).setCell ⟨w'.heap.size + 2, 8, none⟩ x8).setCell ⟨w'.heap.size + 2, 9, none⟩ x9).setCell ⟨w'.heap.size + 2, 10, none⟩ x10).setCell ⟨w'.heap.size + 2, 11, none⟩ x11) := by
  subst e
  have hbs := bes_set12 (w := w) (b := w'.heap.size + 2) (x0 := x0) (x1 := x1) (x2 := x2) (x3 := x3) (x4 := x4) (x5 := x5) (x6 := x6) (x7 := x7) (x8 := x8) (x9 := x9) (x10 := x10) (x11 := x11)
  have hbw : Below w'.heap.size w' w := hb0.trans (hb.mono (by omega))
  refine ⟨hv, rfl, own_mono (hbs.keepsOwn ho (fun q hq e => ?_)) (by omega), hbs.below hbw hbw.size (fun g hg => by omega)⟩
  have := own_from ho q hq
  omega
set_option maxHeartbeats 4000000 in
set_option maxRecDepth 100000 in
theorem do0_any (s : St) (a : Ac) (w : World)  (hk : a.c = 0) : Calls Try.prog 9 #[.agg (stc s), .agg (acc a)] w fun e w' => Outs w (pdo s a) e w' := by
  have HE : Hid (enter s a.d a.o = pdo s a) := by show _ = _; unfold pdo; rw [if_pos hk]
  have hk1 : (a.c == 0) = true := by simpa using hk
  clear hk
  obtain ⟨V, hV⟩ : ∃ V, V = ((w.alloc (.cells #[.int .i64 s.k, .int .i64 s.m, .int .i64 s.x, .int .i64 s.y, .int .i64 s.d, .int .i64 s.e] 27)).alloc (.cells #[.int .i64 a.c, .int .i64 a.d, .int .i64 a.x, .int .i64 a.y, .bool a.o] 30)).alloc (.cells #[.int .i64 0, .int .i64 0, .int .i64 0, .int .i64 0, .int .i64 0, .int .i64 0, .slice none 0 0, .int .i64 0, .int .i64 0, .bool false, .bool false, .bool false] 34) := ⟨_, rfl⟩
  have hz0 : V.heap.size = w.heap.size + 3 := by rw [hV]; simp
  have hb0 : Below w.heap.size w V := by rw [hV]; exact ((below_alloc w _).alloc (by simp) _).alloc (by simp; omega) _
  have hs0 : Blk V w.heap.size 27 (stc s) := by rw [hV]; exact ((Blk.new w _ _).alloc _).alloc _
  have ha0 : Blk V (w.heap.size + 1) 30 (acc a) := by rw [hV]; exact (Blk.new' (w.alloc _) _ _ _ (by simp)).alloc _
  have hr0 : Blk V (w.heap.size + 2) 34 zo := by rw [hV]; exact Blk.new' ((w.alloc _).alloc _) _ _ _ (by simp)
  have C := enter_any s a.d a.o V
  unfold Outs stc at C
  rw [hz0] at C
  have HC := Lib.hid C
  have HV := Lib.hid hV
  have HB0 := Lib.hid hb0
  have HR0 := Lib.hid hr0
  obtain ⟨sc0, sc1, sc2, sc3, sc4, sc5⟩ := six_cells hs0
  have ac0 : V.cell? ⟨w.heap.size + 1, 0, none⟩ = some (.int .i64 a.c) := ha0.cell 0 rfl
  have ac1 : V.cell? ⟨w.heap.size + 1, 1, none⟩ = some (.int .i64 a.d) := ha0.cell 1 rfl
  have ac2 : V.cell? ⟨w.heap.size + 1, 2, none⟩ = some (.int .i64 a.x) := ha0.cell 2 rfl
  have ac3 : V.cell? ⟨w.heap.size + 1, 3, none⟩ = some (.int .i64 a.y) := ha0.cell 3 rfl
  have ac4 : V.cell? ⟨w.heap.size + 1, 4, none⟩ = some (.bool a.o) := ha0.cell 4 rfl
  clear hV hz0 hb0 hs0 ha0 hr0 C
  unfold stc acc
  go_enter Try.func9, Try.ntmps9
  go_upto_region 1 with fail
  rw [← HV.out]
  go_wp2_with fail
  (with_reducible refine HC.out.mono ?_)
  rintro e w1 ⟨hv, rfl, ho, hb⟩
  obtain ⟨A, c, rfl, _, _⟩ := own_slice ho
  unfold ouc
  have hrw := HR0.out.belowB hb (by omega)
  obtain ⟨rc0, rc1, rc2, rc3, rc4, rc5, rc6, rc7, rc8, rc9, rc10, rc11⟩ := blk12 hrw
  obtain ⟨rz0, rz1, rz2, rz3, rz4, rz5, rz6, rz7, rz8, rz9, rz10, rz11⟩ := frz12 hrw
  have HRW := Lib.hid hrw
  have HB := Lib.hid hb
  have HO := Lib.hid ho
  clear hrw hb ho HC
  generalize enter s a.d a.o = q at *
  go_wp2
  (try simp only [Exit.inBlock, Exit.then])
  refine bodyPost_ret (results_cell_row rfl _ _ (w.heap.size + 2) 34 _ (0, 0) _ rfl (blk_set12 HRW.out) Try.underlying34 rfl (by kernel_rfl)) rfl ?_
  exact outs_do HRW.out HO.out HB0.out HB.out HE.out
set_option maxHeartbeats 4000000 in
set_option maxRecDepth 100000 in
theorem do1_any (s : St) (a : Ac) (w : World) (n0 : ¬ a.c = 0) (hk : a.c = 1) : Calls Try.prog 9 #[.agg (stc s), .agg (acc a)] w fun e w' => Outs w (pdo s a) e w' := by
  have HE : Hid (leave s a.d a.o = pdo s a) := by show _ = _; unfold pdo; rw [if_neg n0, if_pos hk]
  have m0 : (a.c == 0) = false := by simpa using n0
  have hk1 : (a.c == 1) = true := by simpa using hk
  clear n0 hk
  obtain ⟨V, hV⟩ : ∃ V, V = ((w.alloc (.cells #[.int .i64 s.k, .int .i64 s.m, .int .i64 s.x, .int .i64 s.y, .int .i64 s.d, .int .i64 s.e] 27)).alloc (.cells #[.int .i64 a.c, .int .i64 a.d, .int .i64 a.x, .int .i64 a.y, .bool a.o] 30)).alloc (.cells #[.int .i64 0, .int .i64 0, .int .i64 0, .int .i64 0, .int .i64 0, .int .i64 0, .slice none 0 0, .int .i64 0, .int .i64 0, .bool false, .bool false, .bool false] 34) := ⟨_, rfl⟩
  have hz0 : V.heap.size = w.heap.size + 3 := by rw [hV]; simp
  have hb0 : Below w.heap.size w V := by rw [hV]; exact ((below_alloc w _).alloc (by simp) _).alloc (by simp; omega) _
  have hs0 : Blk V w.heap.size 27 (stc s) := by rw [hV]; exact ((Blk.new w _ _).alloc _).alloc _
  have ha0 : Blk V (w.heap.size + 1) 30 (acc a) := by rw [hV]; exact (Blk.new' (w.alloc _) _ _ _ (by simp)).alloc _
  have hr0 : Blk V (w.heap.size + 2) 34 zo := by rw [hV]; exact Blk.new' ((w.alloc _).alloc _) _ _ _ (by simp)
  have C := leave_any s a.d a.o V
  unfold Outs stc at C
  rw [hz0] at C
  have HC := Lib.hid C
  have HV := Lib.hid hV
  have HB0 := Lib.hid hb0
  have HR0 := Lib.hid hr0
  obtain ⟨sc0, sc1, sc2, sc3, sc4, sc5⟩ := six_cells hs0
  have ac0 : V.cell? ⟨w.heap.size + 1, 0, none⟩ = some (.int .i64 a.c) := ha0.cell 0 rfl
  have ac1 : V.cell? ⟨w.heap.size + 1, 1, none⟩ = some (.int .i64 a.d) := ha0.cell 1 rfl
  have ac2 : V.cell? ⟨w.heap.size + 1, 2, none⟩ = some (.int .i64 a.x) := ha0.cell 2 rfl
  have ac3 : V.cell? ⟨w.heap.size + 1, 3, none⟩ = some (.int .i64 a.y) := ha0.cell 3 rfl
  have ac4 : V.cell? ⟨w.heap.size + 1, 4, none⟩ = some (.bool a.o) := ha0.cell 4 rfl
  clear hV hz0 hb0 hs0 ha0 hr0 C
  unfold stc acc
  go_enter Try.func9, Try.ntmps9
  go_upto_region 1 with fail
  rw [← HV.out]
  go_wp2_with fail
  (with_reducible refine HC.out.mono ?_)
  rintro e w1 ⟨hv, rfl, ho, hb⟩
  obtain ⟨A, c, rfl, _, _⟩ := own_slice ho
  unfold ouc
  have hrw := HR0.out.belowB hb (by omega)
  obtain ⟨rc0, rc1, rc2, rc3, rc4, rc5, rc6, rc7, rc8, rc9, rc10, rc11⟩ := blk12 hrw
  obtain ⟨rz0, rz1, rz2, rz3, rz4, rz5, rz6, rz7, rz8, rz9, rz10, rz11⟩ := frz12 hrw
  have HRW := Lib.hid hrw
  have HB := Lib.hid hb
  have HO := Lib.hid ho
  clear hrw hb ho HC
  generalize leave s a.d a.o = q at *
  go_wp2
  (try simp only [Exit.inBlock, Exit.then])
  refine bodyPost_ret (results_cell_row rfl _ _ (w.heap.size + 2) 34 _ (0, 0) _ rfl (blk_set12 HRW.out) Try.underlying34 rfl (by kernel_rfl)) rfl ?_
  exact outs_do HRW.out HO.out HB0.out HB.out HE.out
set_option maxHeartbeats 4000000 in
set_option maxRecDepth 100000 in
theorem do2_any (s : St) (a : Ac) (w : World) (n0 : ¬ a.c = 0) (n1 : ¬ a.c = 1) (hk : a.c = 2) : Calls Try.prog 9 #[.agg (stc s), .agg (acc a)] w fun e w' => Outs w (pdo s a) e w' := by
  have HE : Hid (hold s = pdo s a) := by show _ = _; unfold pdo; rw [if_neg n0, if_neg n1, if_pos hk]
  have m0 : (a.c == 0) = false := by simpa using n0
  have m1 : (a.c == 1) = false := by simpa using n1
  have hk1 : (a.c == 2) = true := by simpa using hk
  clear n0 n1 hk
  obtain ⟨V, hV⟩ : ∃ V, V = ((w.alloc (.cells #[.int .i64 s.k, .int .i64 s.m, .int .i64 s.x, .int .i64 s.y, .int .i64 s.d, .int .i64 s.e] 27)).alloc (.cells #[.int .i64 a.c, .int .i64 a.d, .int .i64 a.x, .int .i64 a.y, .bool a.o] 30)).alloc (.cells #[.int .i64 0, .int .i64 0, .int .i64 0, .int .i64 0, .int .i64 0, .int .i64 0, .slice none 0 0, .int .i64 0, .int .i64 0, .bool false, .bool false, .bool false] 34) := ⟨_, rfl⟩
  have hz0 : V.heap.size = w.heap.size + 3 := by rw [hV]; simp
  have hb0 : Below w.heap.size w V := by rw [hV]; exact ((below_alloc w _).alloc (by simp) _).alloc (by simp; omega) _
  have hs0 : Blk V w.heap.size 27 (stc s) := by rw [hV]; exact ((Blk.new w _ _).alloc _).alloc _
  have ha0 : Blk V (w.heap.size + 1) 30 (acc a) := by rw [hV]; exact (Blk.new' (w.alloc _) _ _ _ (by simp)).alloc _
  have hr0 : Blk V (w.heap.size + 2) 34 zo := by rw [hV]; exact Blk.new' ((w.alloc _).alloc _) _ _ _ (by simp)
  have C := hold_any s V
  unfold Outs stc at C
  rw [hz0] at C
  have HC := Lib.hid C
  have HV := Lib.hid hV
  have HB0 := Lib.hid hb0
  have HR0 := Lib.hid hr0
  obtain ⟨sc0, sc1, sc2, sc3, sc4, sc5⟩ := six_cells hs0
  have ac0 : V.cell? ⟨w.heap.size + 1, 0, none⟩ = some (.int .i64 a.c) := ha0.cell 0 rfl
  have ac1 : V.cell? ⟨w.heap.size + 1, 1, none⟩ = some (.int .i64 a.d) := ha0.cell 1 rfl
  have ac2 : V.cell? ⟨w.heap.size + 1, 2, none⟩ = some (.int .i64 a.x) := ha0.cell 2 rfl
  have ac3 : V.cell? ⟨w.heap.size + 1, 3, none⟩ = some (.int .i64 a.y) := ha0.cell 3 rfl
  have ac4 : V.cell? ⟨w.heap.size + 1, 4, none⟩ = some (.bool a.o) := ha0.cell 4 rfl
  clear hV hz0 hb0 hs0 ha0 hr0 C
  unfold stc acc
  go_enter Try.func9, Try.ntmps9
  go_upto_region 1 with fail
  rw [← HV.out]
  go_wp2_with fail
  (with_reducible refine HC.out.mono ?_)
  rintro e w1 ⟨hv, rfl, ho, hb⟩
  obtain ⟨A, c, rfl, _, _⟩ := own_slice ho
  unfold ouc
  have hrw := HR0.out.belowB hb (by omega)
  obtain ⟨rc0, rc1, rc2, rc3, rc4, rc5, rc6, rc7, rc8, rc9, rc10, rc11⟩ := blk12 hrw
  obtain ⟨rz0, rz1, rz2, rz3, rz4, rz5, rz6, rz7, rz8, rz9, rz10, rz11⟩ := frz12 hrw
  have HRW := Lib.hid hrw
  have HB := Lib.hid hb
  have HO := Lib.hid ho
  clear hrw hb ho HC
  generalize hold s = q at *
  go_wp2
  (try simp only [Exit.inBlock, Exit.then])
  refine bodyPost_ret (results_cell_row rfl _ _ (w.heap.size + 2) 34 _ (0, 0) _ rfl (blk_set12 HRW.out) Try.underlying34 rfl (by kernel_rfl)) rfl ?_
  exact outs_do HRW.out HO.out HB0.out HB.out HE.out
set_option maxHeartbeats 4000000 in
set_option maxRecDepth 100000 in
theorem do3_any (s : St) (a : Ac) (w : World) (n0 : ¬ a.c = 0) (n1 : ¬ a.c = 1) (n2 : ¬ a.c = 2) (hk : a.c = 3) : Calls Try.prog 9 #[.agg (stc s), .agg (acc a)] w fun e w' => Outs w (pdo s a) e w' := by
  have HE : Hid (ret s = pdo s a) := by show _ = _; unfold pdo; rw [if_neg n0, if_neg n1, if_neg n2, if_pos hk]
  have m0 : (a.c == 0) = false := by simpa using n0
  have m1 : (a.c == 1) = false := by simpa using n1
  have m2 : (a.c == 2) = false := by simpa using n2
  have hk1 : (a.c == 3) = true := by simpa using hk
  clear n0 n1 n2 hk
  obtain ⟨V, hV⟩ : ∃ V, V = ((w.alloc (.cells #[.int .i64 s.k, .int .i64 s.m, .int .i64 s.x, .int .i64 s.y, .int .i64 s.d, .int .i64 s.e] 27)).alloc (.cells #[.int .i64 a.c, .int .i64 a.d, .int .i64 a.x, .int .i64 a.y, .bool a.o] 30)).alloc (.cells #[.int .i64 0, .int .i64 0, .int .i64 0, .int .i64 0, .int .i64 0, .int .i64 0, .slice none 0 0, .int .i64 0, .int .i64 0, .bool false, .bool false, .bool false] 34) := ⟨_, rfl⟩
  have hz0 : V.heap.size = w.heap.size + 3 := by rw [hV]; simp
  have hb0 : Below w.heap.size w V := by rw [hV]; exact ((below_alloc w _).alloc (by simp) _).alloc (by simp; omega) _
  have hs0 : Blk V w.heap.size 27 (stc s) := by rw [hV]; exact ((Blk.new w _ _).alloc _).alloc _
  have ha0 : Blk V (w.heap.size + 1) 30 (acc a) := by rw [hV]; exact (Blk.new' (w.alloc _) _ _ _ (by simp)).alloc _
  have hr0 : Blk V (w.heap.size + 2) 34 zo := by rw [hV]; exact Blk.new' ((w.alloc _).alloc _) _ _ _ (by simp)
  have C := ret_any s V
  unfold Outs stc at C
  rw [hz0] at C
  have HC := Lib.hid C
  have HV := Lib.hid hV
  have HB0 := Lib.hid hb0
  have HR0 := Lib.hid hr0
  obtain ⟨sc0, sc1, sc2, sc3, sc4, sc5⟩ := six_cells hs0
  have ac0 : V.cell? ⟨w.heap.size + 1, 0, none⟩ = some (.int .i64 a.c) := ha0.cell 0 rfl
  have ac1 : V.cell? ⟨w.heap.size + 1, 1, none⟩ = some (.int .i64 a.d) := ha0.cell 1 rfl
  have ac2 : V.cell? ⟨w.heap.size + 1, 2, none⟩ = some (.int .i64 a.x) := ha0.cell 2 rfl
  have ac3 : V.cell? ⟨w.heap.size + 1, 3, none⟩ = some (.int .i64 a.y) := ha0.cell 3 rfl
  have ac4 : V.cell? ⟨w.heap.size + 1, 4, none⟩ = some (.bool a.o) := ha0.cell 4 rfl
  clear hV hz0 hb0 hs0 ha0 hr0 C
  unfold stc acc
  go_enter Try.func9, Try.ntmps9
  go_upto_region 1 with fail
  rw [← HV.out]
  go_wp2_with fail
  (with_reducible refine HC.out.mono ?_)
  rintro e w1 ⟨hv, rfl, ho, hb⟩
  obtain ⟨A, c, rfl, _, _⟩ := own_slice ho
  unfold ouc
  have hrw := HR0.out.belowB hb (by omega)
  obtain ⟨rc0, rc1, rc2, rc3, rc4, rc5, rc6, rc7, rc8, rc9, rc10, rc11⟩ := blk12 hrw
  obtain ⟨rz0, rz1, rz2, rz3, rz4, rz5, rz6, rz7, rz8, rz9, rz10, rz11⟩ := frz12 hrw
  have HRW := Lib.hid hrw
  have HB := Lib.hid hb
  have HO := Lib.hid ho
  clear hrw hb ho HC
  generalize ret s = q at *
  go_wp2
  (try simp only [Exit.inBlock, Exit.then])
  refine bodyPost_ret (results_cell_row rfl _ _ (w.heap.size + 2) 34 _ (0, 0) _ rfl (blk_set12 HRW.out) Try.underlying34 rfl (by kernel_rfl)) rfl ?_
  exact outs_do HRW.out HO.out HB0.out HB.out HE.out
set_option maxHeartbeats 4000000 in
set_option maxRecDepth 100000 in
theorem do4_any (s : St) (a : Ac) (w : World) (n0 : ¬ a.c = 0) (n1 : ¬ a.c = 1) (n2 : ¬ a.c = 2) (n3 : ¬ a.c = 3) (hk : a.c = 4) : Calls Try.prog 9 #[.agg (stc s), .agg (acc a)] w fun e w' => Outs w (pdo s a) e w' := by
  have HE : Hid (frame s = pdo s a) := by show _ = _; unfold pdo; rw [if_neg n0, if_neg n1, if_neg n2, if_neg n3, if_pos hk]
  have m0 : (a.c == 0) = false := by simpa using n0
  have m1 : (a.c == 1) = false := by simpa using n1
  have m2 : (a.c == 2) = false := by simpa using n2
  have m3 : (a.c == 3) = false := by simpa using n3
  have hk1 : (a.c == 4) = true := by simpa using hk
  clear n0 n1 n2 n3 hk
  obtain ⟨V, hV⟩ : ∃ V, V = ((w.alloc (.cells #[.int .i64 s.k, .int .i64 s.m, .int .i64 s.x, .int .i64 s.y, .int .i64 s.d, .int .i64 s.e] 27)).alloc (.cells #[.int .i64 a.c, .int .i64 a.d, .int .i64 a.x, .int .i64 a.y, .bool a.o] 30)).alloc (.cells #[.int .i64 0, .int .i64 0, .int .i64 0, .int .i64 0, .int .i64 0, .int .i64 0, .slice none 0 0, .int .i64 0, .int .i64 0, .bool false, .bool false, .bool false] 34) := ⟨_, rfl⟩
  have hz0 : V.heap.size = w.heap.size + 3 := by rw [hV]; simp
  have hb0 : Below w.heap.size w V := by rw [hV]; exact ((below_alloc w _).alloc (by simp) _).alloc (by simp; omega) _
  have hs0 : Blk V w.heap.size 27 (stc s) := by rw [hV]; exact ((Blk.new w _ _).alloc _).alloc _
  have ha0 : Blk V (w.heap.size + 1) 30 (acc a) := by rw [hV]; exact (Blk.new' (w.alloc _) _ _ _ (by simp)).alloc _
  have hr0 : Blk V (w.heap.size + 2) 34 zo := by rw [hV]; exact Blk.new' ((w.alloc _).alloc _) _ _ _ (by simp)
  have C := frame_any s V
  unfold Outs stc at C
  rw [hz0] at C
  have HC := Lib.hid C
  have HV := Lib.hid hV
  have HB0 := Lib.hid hb0
  have HR0 := Lib.hid hr0
  obtain ⟨sc0, sc1, sc2, sc3, sc4, sc5⟩ := six_cells hs0
  have ac0 : V.cell? ⟨w.heap.size + 1, 0, none⟩ = some (.int .i64 a.c) := ha0.cell 0 rfl
  have ac1 : V.cell? ⟨w.heap.size + 1, 1, none⟩ = some (.int .i64 a.d) := ha0.cell 1 rfl
  have ac2 : V.cell? ⟨w.heap.size + 1, 2, none⟩ = some (.int .i64 a.x) := ha0.cell 2 rfl
  have ac3 : V.cell? ⟨w.heap.size + 1, 3, none⟩ = some (.int .i64 a.y) := ha0.cell 3 rfl
  have ac4 : V.cell? ⟨w.heap.size + 1, 4, none⟩ = some (.bool a.o) := ha0.cell 4 rfl
  clear hV hz0 hb0 hs0 ha0 hr0 C
  unfold stc acc
  go_enter Try.func9, Try.ntmps9
  go_upto_region 1 with fail
  rw [← HV.out]
  go_wp2_with fail
  (with_reducible refine HC.out.mono ?_)
  rintro e w1 ⟨hv, rfl, ho, hb⟩
  obtain ⟨A, c, rfl, _, _⟩ := own_slice ho
  unfold ouc
  have hrw := HR0.out.belowB hb (by omega)
  obtain ⟨rc0, rc1, rc2, rc3, rc4, rc5, rc6, rc7, rc8, rc9, rc10, rc11⟩ := blk12 hrw
  obtain ⟨rz0, rz1, rz2, rz3, rz4, rz5, rz6, rz7, rz8, rz9, rz10, rz11⟩ := frz12 hrw
  have HRW := Lib.hid hrw
  have HB := Lib.hid hb
  have HO := Lib.hid ho
  clear hrw hb ho HC
  generalize frame s = q at *
  go_wp2
  (try simp only [Exit.inBlock, Exit.then])
  refine bodyPost_ret (results_cell_row rfl _ _ (w.heap.size + 2) 34 _ (0, 0) _ rfl (blk_set12 HRW.out) Try.underlying34 rfl (by kernel_rfl)) rfl ?_
  exact outs_do HRW.out HO.out HB0.out HB.out HE.out
set_option maxHeartbeats 4000000 in
set_option maxRecDepth 100000 in
theorem do5_any (s : St) (a : Ac) (w : World) (n0 : ¬ a.c = 0) (n1 : ¬ a.c = 1) (n2 : ¬ a.c = 2) (n3 : ¬ a.c = 3) (n4 : ¬ a.c = 4) (hk : a.c = 5) : Calls Try.prog 9 #[.agg (stc s), .agg (acc a)] w fun e w' => Outs w (pdo s a) e w' := by
  have HE : Hid (finish s = pdo s a) := by show _ = _; unfold pdo; rw [if_neg n0, if_neg n1, if_neg n2, if_neg n3, if_neg n4, if_pos hk]
  have m0 : (a.c == 0) = false := by simpa using n0
  have m1 : (a.c == 1) = false := by simpa using n1
  have m2 : (a.c == 2) = false := by simpa using n2
  have m3 : (a.c == 3) = false := by simpa using n3
  have m4 : (a.c == 4) = false := by simpa using n4
  have hk1 : (a.c == 5) = true := by simpa using hk
  clear n0 n1 n2 n3 n4 hk
  obtain ⟨V, hV⟩ : ∃ V, V = ((w.alloc (.cells #[.int .i64 s.k, .int .i64 s.m, .int .i64 s.x, .int .i64 s.y, .int .i64 s.d, .int .i64 s.e] 27)).alloc (.cells #[.int .i64 a.c, .int .i64 a.d, .int .i64 a.x, .int .i64 a.y, .bool a.o] 30)).alloc (.cells #[.int .i64 0, .int .i64 0, .int .i64 0, .int .i64 0, .int .i64 0, .int .i64 0, .slice none 0 0, .int .i64 0, .int .i64 0, .bool false, .bool false, .bool false] 34) := ⟨_, rfl⟩
  have hz0 : V.heap.size = w.heap.size + 3 := by rw [hV]; simp
  have hb0 : Below w.heap.size w V := by rw [hV]; exact ((below_alloc w _).alloc (by simp) _).alloc (by simp; omega) _
  have hs0 : Blk V w.heap.size 27 (stc s) := by rw [hV]; exact ((Blk.new w _ _).alloc _).alloc _
  have ha0 : Blk V (w.heap.size + 1) 30 (acc a) := by rw [hV]; exact (Blk.new' (w.alloc _) _ _ _ (by simp)).alloc _
  have hr0 : Blk V (w.heap.size + 2) 34 zo := by rw [hV]; exact Blk.new' ((w.alloc _).alloc _) _ _ _ (by simp)
  have C := finish_any s V
  unfold Outs stc at C
  rw [hz0] at C
  have HC := Lib.hid C
  have HV := Lib.hid hV
  have HB0 := Lib.hid hb0
  have HR0 := Lib.hid hr0
  obtain ⟨sc0, sc1, sc2, sc3, sc4, sc5⟩ := six_cells hs0
  have ac0 : V.cell? ⟨w.heap.size + 1, 0, none⟩ = some (.int .i64 a.c) := ha0.cell 0 rfl
  have ac1 : V.cell? ⟨w.heap.size + 1, 1, none⟩ = some (.int .i64 a.d) := ha0.cell 1 rfl
  have ac2 : V.cell? ⟨w.heap.size + 1, 2, none⟩ = some (.int .i64 a.x) := ha0.cell 2 rfl
  have ac3 : V.cell? ⟨w.heap.size + 1, 3, none⟩ = some (.int .i64 a.y) := ha0.cell 3 rfl
  have ac4 : V.cell? ⟨w.heap.size + 1, 4, none⟩ = some (.bool a.o) := ha0.cell 4 rfl
  clear hV hz0 hb0 hs0 ha0 hr0 C
  unfold stc acc
  go_enter Try.func9, Try.ntmps9
  go_upto_region 1 with fail
  rw [← HV.out]
  go_wp2_with fail
  (with_reducible refine HC.out.mono ?_)
  rintro e w1 ⟨hv, rfl, ho, hb⟩
  obtain ⟨A, c, rfl, _, _⟩ := own_slice ho
  unfold ouc
  have hrw := HR0.out.belowB hb (by omega)
  obtain ⟨rc0, rc1, rc2, rc3, rc4, rc5, rc6, rc7, rc8, rc9, rc10, rc11⟩ := blk12 hrw
  obtain ⟨rz0, rz1, rz2, rz3, rz4, rz5, rz6, rz7, rz8, rz9, rz10, rz11⟩ := frz12 hrw
  have HRW := Lib.hid hrw
  have HB := Lib.hid hb
  have HO := Lib.hid ho
  clear hrw hb ho HC
  generalize finish s = q at *
  go_wp2
  (try simp only [Exit.inBlock, Exit.then])
  refine bodyPost_ret (results_cell_row rfl _ _ (w.heap.size + 2) 34 _ (0, 0) _ rfl (blk_set12 HRW.out) Try.underlying34 rfl (by kernel_rfl)) rfl ?_
  exact outs_do HRW.out HO.out HB0.out HB.out HE.out
set_option maxHeartbeats 4000000 in
set_option maxRecDepth 100000 in
theorem do6_any (s : St) (a : Ac) (w : World) (n0 : ¬ a.c = 0) (n1 : ¬ a.c = 1) (n2 : ¬ a.c = 2) (n3 : ¬ a.c = 3) (n4 : ¬ a.c = 4) (n5 : ¬ a.c = 5) (hk : a.c = 6) : Calls Try.prog 9 #[.agg (stc s), .agg (acc a)] w fun e w' => Outs w (pdo s a) e w' := by
  have HE : Hid (cancel s = pdo s a) := by show _ = _; unfold pdo; rw [if_neg n0, if_neg n1, if_neg n2, if_neg n3, if_neg n4, if_neg n5, if_pos hk]
  have m0 : (a.c == 0) = false := by simpa using n0
  have m1 : (a.c == 1) = false := by simpa using n1
  have m2 : (a.c == 2) = false := by simpa using n2
  have m3 : (a.c == 3) = false := by simpa using n3
  have m4 : (a.c == 4) = false := by simpa using n4
  have m5 : (a.c == 5) = false := by simpa using n5
  have hk1 : (a.c == 6) = true := by simpa using hk
  clear n0 n1 n2 n3 n4 n5 hk
  obtain ⟨V, hV⟩ : ∃ V, V = ((w.alloc (.cells #[.int .i64 s.k, .int .i64 s.m, .int .i64 s.x, .int .i64 s.y, .int .i64 s.d, .int .i64 s.e] 27)).alloc (.cells #[.int .i64 a.c, .int .i64 a.d, .int .i64 a.x, .int .i64 a.y, .bool a.o] 30)).alloc (.cells #[.int .i64 0, .int .i64 0, .int .i64 0, .int .i64 0, .int .i64 0, .int .i64 0, .slice none 0 0, .int .i64 0, .int .i64 0, .bool false, .bool false, .bool false] 34) := ⟨_, rfl⟩
  have hz0 : V.heap.size = w.heap.size + 3 := by rw [hV]; simp
  have hb0 : Below w.heap.size w V := by rw [hV]; exact ((below_alloc w _).alloc (by simp) _).alloc (by simp; omega) _
  have hs0 : Blk V w.heap.size 27 (stc s) := by rw [hV]; exact ((Blk.new w _ _).alloc _).alloc _
  have ha0 : Blk V (w.heap.size + 1) 30 (acc a) := by rw [hV]; exact (Blk.new' (w.alloc _) _ _ _ (by simp)).alloc _
  have hr0 : Blk V (w.heap.size + 2) 34 zo := by rw [hV]; exact Blk.new' ((w.alloc _).alloc _) _ _ _ (by simp)
  have C := cancel_any s V
  unfold Outs stc at C
  rw [hz0] at C
  have HC := Lib.hid C
  have HV := Lib.hid hV
  have HB0 := Lib.hid hb0
  have HR0 := Lib.hid hr0
  obtain ⟨sc0, sc1, sc2, sc3, sc4, sc5⟩ := six_cells hs0
  have ac0 : V.cell? ⟨w.heap.size + 1, 0, none⟩ = some (.int .i64 a.c) := ha0.cell 0 rfl
  have ac1 : V.cell? ⟨w.heap.size + 1, 1, none⟩ = some (.int .i64 a.d) := ha0.cell 1 rfl
  have ac2 : V.cell? ⟨w.heap.size + 1, 2, none⟩ = some (.int .i64 a.x) := ha0.cell 2 rfl
  have ac3 : V.cell? ⟨w.heap.size + 1, 3, none⟩ = some (.int .i64 a.y) := ha0.cell 3 rfl
  have ac4 : V.cell? ⟨w.heap.size + 1, 4, none⟩ = some (.bool a.o) := ha0.cell 4 rfl
  clear hV hz0 hb0 hs0 ha0 hr0 C
  unfold stc acc
  go_enter Try.func9, Try.ntmps9
  go_upto_region 1 with fail
  rw [← HV.out]
  go_wp2_with fail
  (with_reducible refine HC.out.mono ?_)
  rintro e w1 ⟨hv, rfl, ho, hb⟩
  obtain ⟨A, c, rfl, _, _⟩ := own_slice ho
  unfold ouc
  have hrw := HR0.out.belowB hb (by omega)
  obtain ⟨rc0, rc1, rc2, rc3, rc4, rc5, rc6, rc7, rc8, rc9, rc10, rc11⟩ := blk12 hrw
  obtain ⟨rz0, rz1, rz2, rz3, rz4, rz5, rz6, rz7, rz8, rz9, rz10, rz11⟩ := frz12 hrw
  have HRW := Lib.hid hrw
  have HB := Lib.hid hb
  have HO := Lib.hid ho
  clear hrw hb ho HC
  generalize cancel s = q at *
  go_wp2
  (try simp only [Exit.inBlock, Exit.then])
  refine bodyPost_ret (results_cell_row rfl _ _ (w.heap.size + 2) 34 _ (0, 0) _ rfl (blk_set12 HRW.out) Try.underlying34 rfl (by kernel_rfl)) rfl ?_
  exact outs_do HRW.out HO.out HB0.out HB.out HE.out
set_option maxHeartbeats 4000000 in
set_option maxRecDepth 100000 in
theorem do7_any (s : St) (a : Ac) (w : World) (n0 : ¬ a.c = 0) (n1 : ¬ a.c = 1) (n2 : ¬ a.c = 2) (n3 : ¬ a.c = 3) (n4 : ¬ a.c = 4) (n5 : ¬ a.c = 5) (n6 : ¬ a.c = 6) (hk : a.c = 7) : Calls Try.prog 9 #[.agg (stc s), .agg (acc a)] w fun e w' => Outs w (pdo s a) e w' := by
  have HE : Hid (settle s = pdo s a) := by show _ = _; unfold pdo; rw [if_neg n0, if_neg n1, if_neg n2, if_neg n3, if_neg n4, if_neg n5, if_neg n6, if_pos hk]
  have m0 : (a.c == 0) = false := by simpa using n0
  have m1 : (a.c == 1) = false := by simpa using n1
  have m2 : (a.c == 2) = false := by simpa using n2
  have m3 : (a.c == 3) = false := by simpa using n3
  have m4 : (a.c == 4) = false := by simpa using n4
  have m5 : (a.c == 5) = false := by simpa using n5
  have m6 : (a.c == 6) = false := by simpa using n6
  have hk1 : (a.c == 7) = true := by simpa using hk
  clear n0 n1 n2 n3 n4 n5 n6 hk
  obtain ⟨V, hV⟩ : ∃ V, V = ((w.alloc (.cells #[.int .i64 s.k, .int .i64 s.m, .int .i64 s.x, .int .i64 s.y, .int .i64 s.d, .int .i64 s.e] 27)).alloc (.cells #[.int .i64 a.c, .int .i64 a.d, .int .i64 a.x, .int .i64 a.y, .bool a.o] 30)).alloc (.cells #[.int .i64 0, .int .i64 0, .int .i64 0, .int .i64 0, .int .i64 0, .int .i64 0, .slice none 0 0, .int .i64 0, .int .i64 0, .bool false, .bool false, .bool false] 34) := ⟨_, rfl⟩
  have hz0 : V.heap.size = w.heap.size + 3 := by rw [hV]; simp
  have hb0 : Below w.heap.size w V := by rw [hV]; exact ((below_alloc w _).alloc (by simp) _).alloc (by simp; omega) _
  have hs0 : Blk V w.heap.size 27 (stc s) := by rw [hV]; exact ((Blk.new w _ _).alloc _).alloc _
  have ha0 : Blk V (w.heap.size + 1) 30 (acc a) := by rw [hV]; exact (Blk.new' (w.alloc _) _ _ _ (by simp)).alloc _
  have hr0 : Blk V (w.heap.size + 2) 34 zo := by rw [hV]; exact Blk.new' ((w.alloc _).alloc _) _ _ _ (by simp)
  have C := settle_any s V
  unfold Outs stc at C
  rw [hz0] at C
  have HC := Lib.hid C
  have HV := Lib.hid hV
  have HB0 := Lib.hid hb0
  have HR0 := Lib.hid hr0
  obtain ⟨sc0, sc1, sc2, sc3, sc4, sc5⟩ := six_cells hs0
  have ac0 : V.cell? ⟨w.heap.size + 1, 0, none⟩ = some (.int .i64 a.c) := ha0.cell 0 rfl
  have ac1 : V.cell? ⟨w.heap.size + 1, 1, none⟩ = some (.int .i64 a.d) := ha0.cell 1 rfl
  have ac2 : V.cell? ⟨w.heap.size + 1, 2, none⟩ = some (.int .i64 a.x) := ha0.cell 2 rfl
  have ac3 : V.cell? ⟨w.heap.size + 1, 3, none⟩ = some (.int .i64 a.y) := ha0.cell 3 rfl
  have ac4 : V.cell? ⟨w.heap.size + 1, 4, none⟩ = some (.bool a.o) := ha0.cell 4 rfl
  clear hV hz0 hb0 hs0 ha0 hr0 C
  unfold stc acc
  go_enter Try.func9, Try.ntmps9
  go_upto_region 1 with fail
  rw [← HV.out]
  go_wp2_with fail
  (with_reducible refine HC.out.mono ?_)
  rintro e w1 ⟨hv, rfl, ho, hb⟩
  obtain ⟨A, c, rfl, _, _⟩ := own_slice ho
  unfold ouc
  have hrw := HR0.out.belowB hb (by omega)
  obtain ⟨rc0, rc1, rc2, rc3, rc4, rc5, rc6, rc7, rc8, rc9, rc10, rc11⟩ := blk12 hrw
  obtain ⟨rz0, rz1, rz2, rz3, rz4, rz5, rz6, rz7, rz8, rz9, rz10, rz11⟩ := frz12 hrw
  have HRW := Lib.hid hrw
  have HB := Lib.hid hb
  have HO := Lib.hid ho
  clear hrw hb ho HC
  generalize settle s = q at *
  go_wp2
  (try simp only [Exit.inBlock, Exit.then])
  refine bodyPost_ret (results_cell_row rfl _ _ (w.heap.size + 2) 34 _ (0, 0) _ rfl (blk_set12 HRW.out) Try.underlying34 rfl (by kernel_rfl)) rfl ?_
  exact outs_do HRW.out HO.out HB0.out HB.out HE.out
set_option maxHeartbeats 4000000 in
set_option maxRecDepth 100000 in
theorem do8_any (s : St) (a : Ac) (w : World) (n0 : ¬ a.c = 0) (n1 : ¬ a.c = 1) (n2 : ¬ a.c = 2) (n3 : ¬ a.c = 3) (n4 : ¬ a.c = 4) (n5 : ¬ a.c = 5) (n6 : ¬ a.c = 6) (n7 : ¬ a.c = 7) (hk : a.c = 8) : Calls Try.prog 9 #[.agg (stc s), .agg (acc a)] w fun e w' => Outs w (pdo s a) e w' := by
  have HE : Hid (shift s a.x a.y a.d = pdo s a) := by show _ = _; unfold pdo; rw [if_neg n0, if_neg n1, if_neg n2, if_neg n3, if_neg n4, if_neg n5, if_neg n6, if_neg n7, if_pos hk]
  have m0 : (a.c == 0) = false := by simpa using n0
  have m1 : (a.c == 1) = false := by simpa using n1
  have m2 : (a.c == 2) = false := by simpa using n2
  have m3 : (a.c == 3) = false := by simpa using n3
  have m4 : (a.c == 4) = false := by simpa using n4
  have m5 : (a.c == 5) = false := by simpa using n5
  have m6 : (a.c == 6) = false := by simpa using n6
  have m7 : (a.c == 7) = false := by simpa using n7
  have hk1 : (a.c == 8) = true := by simpa using hk
  clear n0 n1 n2 n3 n4 n5 n6 n7 hk
  obtain ⟨V, hV⟩ : ∃ V, V = ((w.alloc (.cells #[.int .i64 s.k, .int .i64 s.m, .int .i64 s.x, .int .i64 s.y, .int .i64 s.d, .int .i64 s.e] 27)).alloc (.cells #[.int .i64 a.c, .int .i64 a.d, .int .i64 a.x, .int .i64 a.y, .bool a.o] 30)).alloc (.cells #[.int .i64 0, .int .i64 0, .int .i64 0, .int .i64 0, .int .i64 0, .int .i64 0, .slice none 0 0, .int .i64 0, .int .i64 0, .bool false, .bool false, .bool false] 34) := ⟨_, rfl⟩
  have hz0 : V.heap.size = w.heap.size + 3 := by rw [hV]; simp
  have hb0 : Below w.heap.size w V := by rw [hV]; exact ((below_alloc w _).alloc (by simp) _).alloc (by simp; omega) _
  have hs0 : Blk V w.heap.size 27 (stc s) := by rw [hV]; exact ((Blk.new w _ _).alloc _).alloc _
  have ha0 : Blk V (w.heap.size + 1) 30 (acc a) := by rw [hV]; exact (Blk.new' (w.alloc _) _ _ _ (by simp)).alloc _
  have hr0 : Blk V (w.heap.size + 2) 34 zo := by rw [hV]; exact Blk.new' ((w.alloc _).alloc _) _ _ _ (by simp)
  have C := shift_any s a.x a.y a.d V
  unfold Outs stc at C
  rw [hz0] at C
  have HC := Lib.hid C
  have HV := Lib.hid hV
  have HB0 := Lib.hid hb0
  have HR0 := Lib.hid hr0
  obtain ⟨sc0, sc1, sc2, sc3, sc4, sc5⟩ := six_cells hs0
  have ac0 : V.cell? ⟨w.heap.size + 1, 0, none⟩ = some (.int .i64 a.c) := ha0.cell 0 rfl
  have ac1 : V.cell? ⟨w.heap.size + 1, 1, none⟩ = some (.int .i64 a.d) := ha0.cell 1 rfl
  have ac2 : V.cell? ⟨w.heap.size + 1, 2, none⟩ = some (.int .i64 a.x) := ha0.cell 2 rfl
  have ac3 : V.cell? ⟨w.heap.size + 1, 3, none⟩ = some (.int .i64 a.y) := ha0.cell 3 rfl
  have ac4 : V.cell? ⟨w.heap.size + 1, 4, none⟩ = some (.bool a.o) := ha0.cell 4 rfl
  clear hV hz0 hb0 hs0 ha0 hr0 C
  unfold stc acc
  go_enter Try.func9, Try.ntmps9
  go_upto_region 1 with fail
  rw [← HV.out]
  go_wp2_with fail
  (with_reducible refine HC.out.mono ?_)
  rintro e w1 ⟨hv, rfl, ho, hb⟩
  obtain ⟨A, c, rfl, _, _⟩ := own_slice ho
  unfold ouc
  have hrw := HR0.out.belowB hb (by omega)
  obtain ⟨rc0, rc1, rc2, rc3, rc4, rc5, rc6, rc7, rc8, rc9, rc10, rc11⟩ := blk12 hrw
  obtain ⟨rz0, rz1, rz2, rz3, rz4, rz5, rz6, rz7, rz8, rz9, rz10, rz11⟩ := frz12 hrw
  have HRW := Lib.hid hrw
  have HB := Lib.hid hb
  have HO := Lib.hid ho
  clear hrw hb ho HC
  generalize shift s a.x a.y a.d = q at *
  go_wp2
  (try simp only [Exit.inBlock, Exit.then])
  refine bodyPost_ret (results_cell_row rfl _ _ (w.heap.size + 2) 34 _ (0, 0) _ rfl (blk_set12 HRW.out) Try.underlying34 rfl (by kernel_rfl)) rfl ?_
  exact outs_do HRW.out HO.out HB0.out HB.out HE.out
set_option maxHeartbeats 4000000 in
set_option maxRecDepth 100000 in
theorem do9_any (s : St) (a : Ac) (w : World) (n0 : ¬ a.c = 0) (n1 : ¬ a.c = 1) (n2 : ¬ a.c = 2) (n3 : ¬ a.c = 3) (n4 : ¬ a.c = 4) (n5 : ¬ a.c = 5) (n6 : ¬ a.c = 6) (n7 : ¬ a.c = 7) (n8 : ¬ a.c = 8) (hk : a.c = 9) : Calls Try.prog 9 #[.agg (stc s), .agg (acc a)] w fun e w' => Outs w (pdo s a) e w' := by
  have HE : Hid (moveFrame s = pdo s a) := by show _ = _; unfold pdo; rw [if_neg n0, if_neg n1, if_neg n2, if_neg n3, if_neg n4, if_neg n5, if_neg n6, if_neg n7, if_neg n8, if_pos hk]
  have m0 : (a.c == 0) = false := by simpa using n0
  have m1 : (a.c == 1) = false := by simpa using n1
  have m2 : (a.c == 2) = false := by simpa using n2
  have m3 : (a.c == 3) = false := by simpa using n3
  have m4 : (a.c == 4) = false := by simpa using n4
  have m5 : (a.c == 5) = false := by simpa using n5
  have m6 : (a.c == 6) = false := by simpa using n6
  have m7 : (a.c == 7) = false := by simpa using n7
  have m8 : (a.c == 8) = false := by simpa using n8
  have hk1 : (a.c == 9) = true := by simpa using hk
  clear n0 n1 n2 n3 n4 n5 n6 n7 n8 hk
  obtain ⟨V, hV⟩ : ∃ V, V = ((w.alloc (.cells #[.int .i64 s.k, .int .i64 s.m, .int .i64 s.x, .int .i64 s.y, .int .i64 s.d, .int .i64 s.e] 27)).alloc (.cells #[.int .i64 a.c, .int .i64 a.d, .int .i64 a.x, .int .i64 a.y, .bool a.o] 30)).alloc (.cells #[.int .i64 0, .int .i64 0, .int .i64 0, .int .i64 0, .int .i64 0, .int .i64 0, .slice none 0 0, .int .i64 0, .int .i64 0, .bool false, .bool false, .bool false] 34) := ⟨_, rfl⟩
  have hz0 : V.heap.size = w.heap.size + 3 := by rw [hV]; simp
  have hb0 : Below w.heap.size w V := by rw [hV]; exact ((below_alloc w _).alloc (by simp) _).alloc (by simp; omega) _
  have hs0 : Blk V w.heap.size 27 (stc s) := by rw [hV]; exact ((Blk.new w _ _).alloc _).alloc _
  have ha0 : Blk V (w.heap.size + 1) 30 (acc a) := by rw [hV]; exact (Blk.new' (w.alloc _) _ _ _ (by simp)).alloc _
  have hr0 : Blk V (w.heap.size + 2) 34 zo := by rw [hV]; exact Blk.new' ((w.alloc _).alloc _) _ _ _ (by simp)
  have C := moveFrame_any s V
  unfold Outs stc at C
  rw [hz0] at C
  have HC := Lib.hid C
  have HV := Lib.hid hV
  have HB0 := Lib.hid hb0
  have HR0 := Lib.hid hr0
  obtain ⟨sc0, sc1, sc2, sc3, sc4, sc5⟩ := six_cells hs0
  have ac0 : V.cell? ⟨w.heap.size + 1, 0, none⟩ = some (.int .i64 a.c) := ha0.cell 0 rfl
  have ac1 : V.cell? ⟨w.heap.size + 1, 1, none⟩ = some (.int .i64 a.d) := ha0.cell 1 rfl
  have ac2 : V.cell? ⟨w.heap.size + 1, 2, none⟩ = some (.int .i64 a.x) := ha0.cell 2 rfl
  have ac3 : V.cell? ⟨w.heap.size + 1, 3, none⟩ = some (.int .i64 a.y) := ha0.cell 3 rfl
  have ac4 : V.cell? ⟨w.heap.size + 1, 4, none⟩ = some (.bool a.o) := ha0.cell 4 rfl
  clear hV hz0 hb0 hs0 ha0 hr0 C
  unfold stc acc
  go_enter Try.func9, Try.ntmps9
  go_upto_region 1 with fail
  rw [← HV.out]
  go_wp2_with fail
  (with_reducible refine HC.out.mono ?_)
  rintro e w1 ⟨hv, rfl, ho, hb⟩
  obtain ⟨A, c, rfl, _, _⟩ := own_slice ho
  unfold ouc
  have hrw := HR0.out.belowB hb (by omega)
  obtain ⟨rc0, rc1, rc2, rc3, rc4, rc5, rc6, rc7, rc8, rc9, rc10, rc11⟩ := blk12 hrw
  obtain ⟨rz0, rz1, rz2, rz3, rz4, rz5, rz6, rz7, rz8, rz9, rz10, rz11⟩ := frz12 hrw
  have HRW := Lib.hid hrw
  have HB := Lib.hid hb
  have HO := Lib.hid ho
  clear hrw hb ho HC
  generalize moveFrame s = q at *
  go_wp2
  (try simp only [Exit.inBlock, Exit.then])
  refine bodyPost_ret (results_cell_row rfl _ _ (w.heap.size + 2) 34 _ (0, 0) _ rfl (blk_set12 HRW.out) Try.underlying34 rfl (by kernel_rfl)) rfl ?_
  exact outs_do HRW.out HO.out HB0.out HB.out HE.out
set_option maxHeartbeats 4000000 in
set_option maxRecDepth 100000 in
theorem do10_any (s : St) (a : Ac) (w : World) (n0 : ¬ a.c = 0) (n1 : ¬ a.c = 1) (n2 : ¬ a.c = 2) (n3 : ¬ a.c = 3) (n4 : ¬ a.c = 4) (n5 : ¬ a.c = 5) (n6 : ¬ a.c = 6) (n7 : ¬ a.c = 7) (n8 : ¬ a.c = 8) (n9 : ¬ a.c = 9) : Calls Try.prog 9 #[.agg (stc s), .agg (acc a)] w fun e w' => Outs w (pdo s a) e w' := by
  have HE : Hid (moveFinish s = pdo s a) := by show _ = _; unfold pdo; rw [if_neg n0, if_neg n1, if_neg n2, if_neg n3, if_neg n4, if_neg n5, if_neg n6, if_neg n7, if_neg n8, if_neg n9]
  have m0 : (a.c == 0) = false := by simpa using n0
  have m1 : (a.c == 1) = false := by simpa using n1
  have m2 : (a.c == 2) = false := by simpa using n2
  have m3 : (a.c == 3) = false := by simpa using n3
  have m4 : (a.c == 4) = false := by simpa using n4
  have m5 : (a.c == 5) = false := by simpa using n5
  have m6 : (a.c == 6) = false := by simpa using n6
  have m7 : (a.c == 7) = false := by simpa using n7
  have m8 : (a.c == 8) = false := by simpa using n8
  have m9 : (a.c == 9) = false := by simpa using n9
  clear n0 n1 n2 n3 n4 n5 n6 n7 n8 n9
  obtain ⟨V, hV⟩ : ∃ V, V = ((w.alloc (.cells #[.int .i64 s.k, .int .i64 s.m, .int .i64 s.x, .int .i64 s.y, .int .i64 s.d, .int .i64 s.e] 27)).alloc (.cells #[.int .i64 a.c, .int .i64 a.d, .int .i64 a.x, .int .i64 a.y, .bool a.o] 30)).alloc (.cells #[.int .i64 0, .int .i64 0, .int .i64 0, .int .i64 0, .int .i64 0, .int .i64 0, .slice none 0 0, .int .i64 0, .int .i64 0, .bool false, .bool false, .bool false] 34) := ⟨_, rfl⟩
  have hz0 : V.heap.size = w.heap.size + 3 := by rw [hV]; simp
  have hb0 : Below w.heap.size w V := by rw [hV]; exact ((below_alloc w _).alloc (by simp) _).alloc (by simp; omega) _
  have hs0 : Blk V w.heap.size 27 (stc s) := by rw [hV]; exact ((Blk.new w _ _).alloc _).alloc _
  have ha0 : Blk V (w.heap.size + 1) 30 (acc a) := by rw [hV]; exact (Blk.new' (w.alloc _) _ _ _ (by simp)).alloc _
  have hr0 : Blk V (w.heap.size + 2) 34 zo := by rw [hV]; exact Blk.new' ((w.alloc _).alloc _) _ _ _ (by simp)
  have C := moveFinish_any s V
  unfold Outs stc at C
  rw [hz0] at C
  have HC := Lib.hid C
  have HV := Lib.hid hV
  have HB0 := Lib.hid hb0
  have HR0 := Lib.hid hr0
  obtain ⟨sc0, sc1, sc2, sc3, sc4, sc5⟩ := six_cells hs0
  have ac0 : V.cell? ⟨w.heap.size + 1, 0, none⟩ = some (.int .i64 a.c) := ha0.cell 0 rfl
  have ac1 : V.cell? ⟨w.heap.size + 1, 1, none⟩ = some (.int .i64 a.d) := ha0.cell 1 rfl
  have ac2 : V.cell? ⟨w.heap.size + 1, 2, none⟩ = some (.int .i64 a.x) := ha0.cell 2 rfl
  have ac3 : V.cell? ⟨w.heap.size + 1, 3, none⟩ = some (.int .i64 a.y) := ha0.cell 3 rfl
  have ac4 : V.cell? ⟨w.heap.size + 1, 4, none⟩ = some (.bool a.o) := ha0.cell 4 rfl
  clear hV hz0 hb0 hs0 ha0 hr0 C
  unfold stc acc
  go_enter Try.func9, Try.ntmps9
  go_upto_region 1 with fail
  rw [← HV.out]
  go_wp2_with fail
  (with_reducible refine HC.out.mono ?_)
  rintro e w1 ⟨hv, rfl, ho, hb⟩
  obtain ⟨A, c, rfl, _, _⟩ := own_slice ho
  unfold ouc
  have hrw := HR0.out.belowB hb (by omega)
  obtain ⟨rc0, rc1, rc2, rc3, rc4, rc5, rc6, rc7, rc8, rc9, rc10, rc11⟩ := blk12 hrw
  obtain ⟨rz0, rz1, rz2, rz3, rz4, rz5, rz6, rz7, rz8, rz9, rz10, rz11⟩ := frz12 hrw
  have HRW := Lib.hid hrw
  have HB := Lib.hid hb
  have HO := Lib.hid ho
  clear hrw hb ho HC
  generalize moveFinish s = q at *
  go_wp2
  (try simp only [Exit.inBlock, Exit.then])
  refine bodyPost_ret (results_cell_row rfl _ _ (w.heap.size + 2) 34 _ (0, 0) _ rfl (blk_set12 HRW.out) Try.underlying34 rfl (by kernel_rfl)) rfl ?_
  exact outs_do HRW.out HO.out HB0.out HB.out HE.out
theorem do_any (s : St) (a : Ac) (w : World) : Calls Try.prog 9 #[.agg (stc s), .agg (acc a)] w fun e w' => Outs w (pdo s a) e w' := by
  by_cases n0 : a.c = 0
  · exact do0_any s a w n0
  by_cases n1 : a.c = 1
  · exact do1_any s a w n0 n1
  by_cases n2 : a.c = 2
  · exact do2_any s a w n0 n1 n2
  by_cases n3 : a.c = 3
  · exact do3_any s a w n0 n1 n2 n3
  by_cases n4 : a.c = 4
  · exact do4_any s a w n0 n1 n2 n3 n4
  by_cases n5 : a.c = 5
  · exact do5_any s a w n0 n1 n2 n3 n4 n5
  by_cases n6 : a.c = 6
  · exact do6_any s a w n0 n1 n2 n3 n4 n5 n6
  by_cases n7 : a.c = 7
  · exact do7_any s a w n0 n1 n2 n3 n4 n5 n6 n7
  by_cases n8 : a.c = 8
  · exact do8_any s a w n0 n1 n2 n3 n4 n5 n6 n7 n8
  by_cases n9 : a.c = 9
  · exact do9_any s a w n0 n1 n2 n3 n4 n5 n6 n7 n8 n9
  exact do10_any s a w n0 n1 n2 n3 n4 n5 n6 n7 n8 n9
end Ph
end Go.Proofs.Ytenolokklkklbaa
