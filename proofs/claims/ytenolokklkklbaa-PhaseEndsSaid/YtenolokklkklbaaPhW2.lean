/- Contracts of the methods that call those: end, vanish, stopEntering, begin; what a look is. -/
import Derived.Test.YtenolokklkklbaaPhW1
namespace Go.Proofs.Ytenolokklkklbaa
open Go.RowKit Ph
set_option linter.unusedVariables false
namespace Ph
variable {w w' : World} {B b : Nat} {o o' : Ou} {hv : Value}
theorem row1 (w : World) (x : Value) (t : TypeId) (b : Nat) (hb : w.heap.size = b) : At (w.alloc (.cells #[x] t)) (some ⟨b, 0, none⟩) [x] := at_new w #[x] t b hb _ rfl
set_option maxHeartbeats 1000000 in
set_option maxRecDepth 100000 in
theorem fin_any (x : Int) (hf : o.h.length ≤ 50) (h : Ob w B b o hv) : Calls Try.prog 27 #[.pointer (some ⟨b, 0, none⟩), .int .i64 x] w fun e w' => e = .returned (.tuple #[]) ∧ (∃ hv', Ob w' B b (o.fin x) hv') ∧ Below B w w' := by
  have hlt := h.lt
  have hB := h.base
  have C := Lib.hid (report_any w.heap.size 1 1 [x] rfl (row1 w (.int .i64 x) 3 _ rfl) (by omega) (h.below (below_alloc w _)))
  have H := Lib.hid h
  clear h
  go_enter Try.func27, Try.ntmps27
  go_wp2_with fail
  (with_reducible refine C.out.mono ?_)
  rintro e w1 ⟨rfl, ⟨hv1, h1⟩, hb1⟩
  have HB1 := Lib.hid (((below_alloc w (.cells #[.int .i64 x] 3)).mono (by omega)).trans (hb1.mono (Nat.le_refl B)))
  obtain ⟨_, _, _, _, _, _, _, _, _, c9, _⟩ := h1.cells
  obtain ⟨_, _, _, _, _, _, _, _, _, z9, _⟩ := h1.frz
  have H1 := Lib.hid h1
  clear h1 hb1
  go_wp2
  go_end0
  exact ⟨rfl, ⟨hv1, H1.out.put 9 (.bool true) rfl rfl⟩, bset' HB1.out hB _ _⟩
set_option maxHeartbeats 1000000 in
set_option maxRecDepth 100000 in
theorem vanish_any (hf : o.h.length ≤ 50) (h : Ob w B b o hv) : Calls Try.prog 29 #[.pointer (some ⟨b, 0, none⟩)] w fun e w' => e = .returned (.tuple #[]) ∧ (∃ hv', Ob w' B b o.vanish hv') ∧ Below B w w' := by
  have hB := h.base
  have C := Lib.hid (fin_any 7 hf h)
  clear h
  go_enter Try.func29, Try.ntmps29
  go_wp2_with fail
  (with_reducible refine C.out.mono ?_)
  rintro e w1 ⟨rfl, ⟨hv1, h1⟩, hb1⟩
  obtain ⟨_, _, _, _, _, _, _, _, _, _, _, c11⟩ := h1.cells
  obtain ⟨_, _, _, _, _, _, _, _, _, _, _, z11⟩ := h1.frz
  have H1 := Lib.hid h1
  have HB1 := Lib.hid hb1
  clear h1 hb1
  go_wp2
  go_end0
  exact ⟨rfl, ⟨hv1, H1.out.put 11 (.bool true) rfl rfl⟩, bset' HB1.out hB _ _⟩
set_option maxHeartbeats 1000000 in
set_option maxRecDepth 100000 in
theorem entering_any (k m x y : Int) (w : World) : Calls Try.prog 12 #[.agg #[.int .i64 k, .int .i64 m, .int .i64 x, .int .i64 y]] w fun e w' => e = .returned (.bool (decide (k = 2) || decide (k = 3))) ∧ Below w.heap.size w w' := by
  by_cases h1 : k = 2
  · subst h1
    go_enter Try.func12, Try.ntmps12
    go_wp2
    go_ret
    exact ⟨rfl, below_alloc w _⟩
  · have e1 : decide (k = 2) = false := by simpa using h1
    rw [e1]
    go_enter Try.func12, Try.ntmps12
    go_wp2
    go_ret
    exact ⟨ret_bool' (by rw [Bool.eq_iff_iff]; simp [h1]), below_alloc w _⟩
set_option maxHeartbeats 1000000 in
set_option maxRecDepth 100000 in
theorem leaving_any (k m x y : Int) (w : World) : Calls Try.prog 13 #[.agg #[.int .i64 k, .int .i64 m, .int .i64 x, .int .i64 y]] w fun e w' => e = .returned (.bool (decide (k = 5) || decide (k = 6))) ∧ Below w.heap.size w w' := by
  by_cases h1 : k = 5
  · subst h1
    go_enter Try.func13, Try.ntmps13
    go_wp2
    go_ret
    exact ⟨rfl, below_alloc w _⟩
  · have e1 : decide (k = 5) = false := by simpa using h1
    rw [e1]
    go_enter Try.func13, Try.ntmps13
    go_wp2
    go_ret
    exact ⟨ret_bool' (by rw [Bool.eq_iff_iff]; simp [h1]), below_alloc w _⟩
set_option maxHeartbeats 1000000 in
set_option maxRecDepth 100000 in
theorem stopE_any (hf : o.h.length ≤ 50) (h : Ob w B b o hv) : Calls Try.prog 34 #[.pointer (some ⟨b, 0, none⟩)] w fun e w' => e = .returned (.tuple #[]) ∧ (∃ hv', Ob w' B b o.stopE hv') ∧ Below B w w' := by
  have hlt := h.lt
  have hB := h.base
  have H := Lib.hid h
  have HF := Lib.hid hf
  obtain ⟨c0, c1, c2, c3, _⟩ := h.cells
  clear h
  have C := Lib.hid (entering_any o.s.k o.s.m o.s.x o.s.y w)
  have HS : Hid (o.stopE = if (decide (o.s.k = 2) || decide (o.s.k = 3)) = true then o.fin 4 else o) := rfl
  generalize (decide (o.s.k = 2) || decide (o.s.k = 3)) = q at *
  go_enter Try.func34, Try.ntmps34
  go_wp2_with fail
  (with_reducible refine C.out.mono ?_)
  rintro e w1 ⟨rfl, hb1⟩
  have C2 := Lib.hid (fin_any 4 HF.out (H.out.below hb1))
  have HB1 := Lib.hid hb1
  clear hb1
  cases q with
  | false =>
    go_wp2
    (first | go_end0 | (try simp only [Exit.inBlock, Exit.then]; refine bodyPost_ret (results_none rfl _ _ _) rfl ?_))
    exact ⟨rfl, ⟨hv, by rw [HS.out]; exact H.out.below HB1.out⟩, HB1.out.mono (by omega)⟩
  | true =>
    go_wp2_with fail
    (with_reducible refine C2.out.mono ?_)
    rintro e w2 ⟨rfl, ⟨hv2, h2⟩, hb2⟩
    have H2 := Lib.hid h2
    have HB2 := Lib.hid hb2
    clear h2 hb2
    go_wp2
    (first | go_end0 | (try simp only [Exit.inBlock, Exit.then]; refine bodyPost_ret (results_none rfl _ _ _) rfl ?_))
    exact ⟨rfl, ⟨hv2, by rw [HS.out]; exact H2.out⟩, (HB1.out.mono (by omega)).trans HB2.out⟩
set_option maxHeartbeats 1000000 in
set_option maxRecDepth 100000 in
theorem begin_any (f t d : Int) (once : Bool) (h : Ob w B b o hv) : Calls Try.prog 32 #[.pointer (some ⟨b, 0, none⟩), .int .i64 f, .int .i64 t, .int .i64 d, .bool once] w fun e w' => e = .returned (.tuple #[]) ∧ (∃ hv', Ob w' B b (o.begin f t d once) hv') ∧ Below B w w' := by
  have hB := h.base
  have H := Lib.hid h
  obtain ⟨c0, c1, c2, c3, c4, c5, c6, c7, c8, c9, c10, c11⟩ := h.cells
  obtain ⟨z0, z1, z2, z3, z4, z5, z6, z7, z8, z9, z10, z11⟩ := h.frz
  clear h
  have h1 : Ob ((w.setCell ⟨b, 0, none⟩ (.int .i64 f)).setCell ⟨b, 7, none⟩ (.int .i64 1)) B b ((o.kind f).job 1) hv := (H.out.put 0 (.int .i64 f) (o' := o.kind f) rfl rfl).put 7 (.int .i64 1) rfl rfl
  have g1 : Below B w ((w.setCell ⟨b, 0, none⟩ (.int .i64 f)).setCell ⟨b, 7, none⟩ (.int .i64 1)) := bset' (bset hB _ _) hB _ _
  cases once with
  | false =>
    have h2 : Ob (((w.setCell ⟨b, 0, none⟩ (.int .i64 f)).setCell ⟨b, 7, none⟩ (.int .i64 1)).setCell ⟨b, 4, none⟩ (.int .i64 d)) B b (((o.kind f).job 1).dur d) hv := h1.put 4 (.int .i64 d) rfl rfl
    have C := Lib.hid (endMove_any h2)
    have G := Lib.hid (bset' g1 hB 4 (.int .i64 d))
    clear h1 h2 g1
    go_enter Try.func32, Try.ntmps32
    go_wp2_with fail
    (refine C.out.mono ?_)
    rintro e w2 ⟨rfl, h3, hb2⟩
    have H3 := Lib.hid h3
    have HB2 := Lib.hid hb2
    clear h3 hb2
    go_wp2
    go_end0
    exact ⟨rfl, ⟨hv, H3.out⟩, G.out.trans HB2.out⟩
  | true =>
    have h2 : Ob (((((w.setCell ⟨b, 0, none⟩ (.int .i64 f)).setCell ⟨b, 7, none⟩ (.int .i64 1)).setCell ⟨b, 0, none⟩ (.int .i64 t)).setCell ⟨b, 7, none⟩ (.int .i64 2)).setCell ⟨b, 4, none⟩ (.int .i64 d)) B b (((o.kind t).job 2).dur d) hv := ((h1.put 0 (.int .i64 t) (o' := (o.kind t).job 1) rfl rfl).put 7 (.int .i64 2) (o' := (o.kind t).job 2) rfl rfl).put 4 (.int .i64 d) rfl rfl
    have C := Lib.hid (endMove_any h2)
    have G := Lib.hid (bset' (bset' (bset' g1 hB 0 (.int .i64 t)) hB 7 (.int .i64 2)) hB 4 (.int .i64 d))
    clear h1 h2 g1
    go_enter Try.func32, Try.ntmps32
    go_wp2_with fail
    (refine C.out.mono ?_)
    rintro e w2 ⟨rfl, h3, hb2⟩
    have H3 := Lib.hid h3
    have HB2 := Lib.hid hb2
    clear h3 hb2
    go_wp2
    go_end0
    exact ⟨rfl, ⟨hv, H3.out⟩, G.out.trans HB2.out⟩
set_option maxHeartbeats 1000000 in
set_option maxRecDepth 100000 in
theorem comes_any (s : St) (w : World) : Calls Try.prog 33 #[.agg (stc s)] w fun e w' => e = .returned (.bool s.com) ∧ Below w.heap.size w w' := by
  have C := Lib.hid (fun W => entering_any s.k s.m s.x s.y W)
  have HC : Hid (s.com = ((decide (s.k = 2) || decide (s.k = 3)) || decide (s.k = 0))) := rfl
  generalize (decide (s.k = 2) || decide (s.k = 3)) = q at *
  unfold stc
  go_enter Try.func33, Try.ntmps33
  cases q with
  | false =>
    go_wp2_with (first | (go_at_call 12; (with_reducible refine (C.out _).mono ?_); rintro e w1 ⟨rfl, hb1⟩; have cc := (hb1.cell (p := ⟨w.heap.size, 0, none⟩) (by simp)); have HB1 := Lib.hid hb1; clear hb1))
    go_ret
    exact ⟨ret_bool' (by rw [HC.out, Bool.eq_iff_iff]; simp), (below_alloc w _).trans (HB1.out.mono (by simp))⟩
  | true =>
    go_wp2_with (first | (go_at_call 12; (with_reducible refine (C.out _).mono ?_); rintro e w1 ⟨rfl, hb1⟩; have HB1 := Lib.hid hb1; clear hb1))
    go_ret
    exact ⟨ret_bool' (by rw [HC.out, Bool.eq_iff_iff]; simp), (below_alloc w _).trans (HB1.out.mono (by simp))⟩
end Ph
end Go.Proofs.Ytenolokklkklbaa
