/- Contracts of rect's Over and of the document's: what two rectangles have together. -/
import Derived.Test.YtjpdnnjijcmioaaRcW2
import Derived.Test.YtjpdnnjijcmioaaRcEq
namespace Go.Proofs.Ytjpdnnjijcmioaa
open Go.RowKit M
/-- what two rectangles have together -/
def ovV (x y v h a b c d : Int) : Value :=
  if min (ad x v) (ad a c) ≤ max x a ∨ min (ad y h) (ad b d) ≤ max y b then .agg #[.int .i64 0, .int .i64 0, .int .i64 0, .int .i64 0]
  else .agg #[.int .i64 (max x a), .int .i64 (max y b), .int .i64 (sb (min (ad x v) (ad a c)) (max x a)), .int .i64 (sb (min (ad y h) (ad b d)) (max y b))]
theorem ovV_comm (x y v h a b c d : Int) : ovV x y v h a b c d = ovV a b c d x y v h := by
  unfold ovV
  rw [Int.max_comm x a, Int.max_comm y b, Int.min_comm (ad x v), Int.min_comm (ad y h)]
theorem ovV_four (x y v h a b c d : Int) : ∃ p q r s : Int, ovV x y v h a b c d = .agg #[.int .i64 p, .int .i64 q, .int .i64 r, .int .i64 s] := by
  unfold ovV
  split
  · exact ⟨_, _, _, _, rfl⟩
  · exact ⟨_, _, _, _, rfl⟩
theorem ovV_zero {x y v h a b c d : Int} (h9 : min (ad x v) (ad a c) ≤ max x a ∨ min (ad y h) (ad b d) ≤ max y b) : ovV x y v h a b c d = .agg #[.int .i64 0, .int .i64 0, .int .i64 0, .int .i64 0] := if_pos h9
theorem ovV_some {x y v h a b c d : Int} (h1 : ¬ min (ad x v) (ad a c) ≤ max x a) (h2 : ¬ min (ad y h) (ad b d) ≤ max y b) : ovV x y v h a b c d = .agg #[.int .i64 (max x a), .int .i64 (max y b), .int .i64 (sb (min (ad x v) (ad a c)) (max x a)), .int .i64 (sb (min (ad y h) (ad b d)) (max y b))] :=
  if_neg (fun h9 => h9.elim h1 h2)
theorem three_laid (w : World) (x y v h a b c d : Int) (t : TypeId) : ∃ W, ((w.alloc (.cells #[.int .i64 x, .int .i64 y, .int .i64 v, .int .i64 h] t)).alloc (.cells #[.int .i64 a, .int .i64 b, .int .i64 c, .int .i64 d] t)).alloc (.cells #[.int .i64 0, .int .i64 0, .int .i64 0, .int .i64 0] t) = W ∧ W.heap.size = w.heap.size + 3 ∧ Below w.heap.size w W ∧
    W.cell? ⟨w.heap.size, 0, none⟩ = some (.int .i64 x) ∧ W.cell? ⟨w.heap.size, 1, none⟩ = some (.int .i64 y) ∧ W.cell? ⟨w.heap.size, 2, none⟩ = some (.int .i64 v) ∧ W.cell? ⟨w.heap.size, 3, none⟩ = some (.int .i64 h) ∧
    W.cell? ⟨w.heap.size + 1, 0, none⟩ = some (.int .i64 a) ∧ W.cell? ⟨w.heap.size + 1, 1, none⟩ = some (.int .i64 b) ∧ W.cell? ⟨w.heap.size + 1, 2, none⟩ = some (.int .i64 c) ∧ W.cell? ⟨w.heap.size + 1, 3, none⟩ = some (.int .i64 d) ∧
    (∀ i, i < 4 → W.cell? ⟨w.heap.size + 2, i, none⟩ = some (.int .i64 0)) ∧ (∀ i, i < 4 → W.frozen? ⟨w.heap.size + 2, i, none⟩ = false) := by
  obtain ⟨W1, e1, s1, b1, f10, f11, f12, f13, r10, r11, r12, r13⟩ := rect_laid w x y v h t
  obtain ⟨W2, e2, s2, b2, f20, f21, f22, f23, r20, r21, r22, r23⟩ := rect_laid W1 a b c d t
  obtain ⟨W3, e3, s3, b3, f30, f31, f32, f33, r30, r31, r32, r33⟩ := rect_laid W2 0 0 0 0 t
  have l0 : w.heap.size < W1.heap.size := by omega
  have l1 : w.heap.size < W2.heap.size := by omega
  have l2 : w.heap.size + 1 < W2.heap.size := by omega
  rw [s1] at f20 f21 f22 f23
  have s2' : W2.heap.size = w.heap.size + 2 := by omega
  rw [s2'] at f30 f31 f32 f33 r30 r31 r32 r33
  have u : ∀ o, W3.cell? ⟨w.heap.size, o, none⟩ = W1.cell? ⟨w.heap.size, o, none⟩ := fun o => (b3.cell (p := ⟨w.heap.size, o, none⟩) l1).trans (b2.cell (p := ⟨w.heap.size, o, none⟩) l0)
  have u2 : ∀ o, W3.cell? ⟨w.heap.size + 1, o, none⟩ = W2.cell? ⟨w.heap.size + 1, o, none⟩ := fun o => b3.cell (p := ⟨w.heap.size + 1, o, none⟩) l2
  refine ⟨W3, by rw [e1, e2, e3], by omega, below_join (below_join b1 b2) b3, (u 0).trans f10, (u 1).trans f11, (u 2).trans f12, (u 3).trans f13, (u2 0).trans f20, (u2 1).trans f21, (u2 2).trans f22, (u2 3).trans f23, fun i hi => ?_, fun i hi => ?_⟩
  · match i, hi with
    | 0, _ => exact f30
    | 1, _ => exact f31
    | 2, _ => exact f32
    | 3, _ => exact f33
  · match i, hi with
    | 0, _ => exact r30
    | 1, _ => exact r31
    | 2, _ => exact r32
    | 3, _ => exact r33
set_option maxHeartbeats 4000000 in
set_option maxRecDepth 100000 in
theorem over_any (x y v h a b c d : Int) (w : World) :
    Calls Try.prog 19 #[.agg #[.int .i64 x, .int .i64 y, .int .i64 v, .int .i64 h], .agg #[.int .i64 a, .int .i64 b, .int .i64 c, .int .i64 d]] w fun e w' => e = .returned (ovV x y v h a b c d) ∧ Below w.heap.size w w' := by
  obtain ⟨V, hV⟩ : ∃ V, V = ovV x y v h a b c d := ⟨_, rfl⟩
  rw [← hV]
  have HV := Lib.hid hV
  clear hV
  all_goals
    go_enter Try.func19, Try.ntmps19
    go_wp2_with fail
    obtain ⟨W, e1, s1, b1, f0, f1, f2, f3, f4, f5, f6, f7, hz, hf⟩ := three_laid w x y v h a b c d 25
    rw [e1]
    have HZ := Lib.hid hz
    have HF := Lib.hid hf
    have HB := Lib.hid b1
    have HS := Lib.hid s1
    have k0 : w.heap.size < W.heap.size := by omega
    have k1 : w.heap.size + 1 < W.heap.size := by omega
    have k2 : w.heap.size + 2 < W.heap.size := by omega
    have HBB := Below.refl W.heap.size W
    clear e1 b1 hz hf s1 
    have hgw : w.heap.size ≤ w.heap.size := Nat.le_refl _
    generalize hgg : w.heap.size = g at f0 f1 f2 f3 f4 f5 f6 f7 k0 k1 k2 HZ HF HS ⊢
    have HG := Lib.hid hgg
    clear hgg hgw
    go_region_held3 (fun w' => w'.cell? ⟨g, 0, none⟩ = some (.int .i64 x) ∧ w'.cell? ⟨g, 1, none⟩ = some (.int .i64 y) ∧ w'.cell? ⟨g, 2, none⟩ = some (.int .i64 v) ∧ w'.cell? ⟨g, 3, none⟩ = some (.int .i64 h) ∧ w'.cell? ⟨g + 1, 0, none⟩ = some (.int .i64 a) ∧ w'.cell? ⟨g + 1, 1, none⟩ = some (.int .i64 b) ∧ w'.cell? ⟨g + 1, 2, none⟩ = some (.int .i64 c) ∧ w'.cell? ⟨g + 1, 3, none⟩ = some (.int .i64 d) ∧ Below W.heap.size W w') (first | (refine ⟨?_, ?_, ?_, ?_, ?_, ?_, ?_, ?_, ?_⟩ <;> first | assumption | exact Below_drew HBB | exact below_heap HBB rfl rfl rfl rfl) | go_keep | exact below_heap HBB rfl rfl rfl rfl) (first | (go_at_call 16; refine (right_any _ _ _ _ _).mono ?_; rintro e9 w5 ⟨rfl, hb9⟩; go_split_ands; have B9 : Below W.heap.size W w5 := below_join (by assumption) hb9; have e0 := (B9.cell (p := ⟨g, 0, none⟩) k0).trans f0; have e1 := (B9.cell (p := ⟨g, 1, none⟩) k0).trans f1; have e2 := (B9.cell (p := ⟨g, 2, none⟩) k0).trans f2; have e3 := (B9.cell (p := ⟨g, 3, none⟩) k0).trans f3; have e4 := (B9.cell (p := ⟨g + 1, 0, none⟩) k1).trans f4; have e5 := (B9.cell (p := ⟨g + 1, 1, none⟩) k1).trans f5; have e6 := (B9.cell (p := ⟨g + 1, 2, none⟩) k1).trans f6; have e7 := (B9.cell (p := ⟨g + 1, 3, none⟩) k1).trans f7))
    all_goals (go_split_ands; have HBC : Below W.heap.size W w5 := (by assumption); clear HBB; have HBB := HBC; clear B9 hb9; go_wp2_with fail)
    all_goals go_region_held3 (fun w' => w'.cell? ⟨g, 0, none⟩ = some (.int .i64 x) ∧ w'.cell? ⟨g, 1, none⟩ = some (.int .i64 y) ∧ w'.cell? ⟨g, 2, none⟩ = some (.int .i64 v) ∧ w'.cell? ⟨g, 3, none⟩ = some (.int .i64 h) ∧ w'.cell? ⟨g + 1, 0, none⟩ = some (.int .i64 a) ∧ w'.cell? ⟨g + 1, 1, none⟩ = some (.int .i64 b) ∧ w'.cell? ⟨g + 1, 2, none⟩ = some (.int .i64 c) ∧ w'.cell? ⟨g + 1, 3, none⟩ = some (.int .i64 d) ∧ Below W.heap.size W w') (first | (refine ⟨?_, ?_, ?_, ?_, ?_, ?_, ?_, ?_, ?_⟩ <;> first | assumption | exact Below_drew HBB | exact below_heap HBB rfl rfl rfl rfl) | go_keep | exact below_heap HBB rfl rfl rfl rfl) (first | (go_at_call 18; refine (bottom_any _ _ _ _ _).mono ?_; rintro e9 w5 ⟨rfl, hb9⟩; go_split_ands; have B9 : Below W.heap.size W w5 := below_join (by assumption) hb9; have e0 := (B9.cell (p := ⟨g, 0, none⟩) k0).trans f0; have e1 := (B9.cell (p := ⟨g, 1, none⟩) k0).trans f1; have e2 := (B9.cell (p := ⟨g, 2, none⟩) k0).trans f2; have e3 := (B9.cell (p := ⟨g, 3, none⟩) k0).trans f3; have e4 := (B9.cell (p := ⟨g + 1, 0, none⟩) k1).trans f4; have e5 := (B9.cell (p := ⟨g + 1, 1, none⟩) k1).trans f5; have e6 := (B9.cell (p := ⟨g + 1, 2, none⟩) k1).trans f6; have e7 := (B9.cell (p := ⟨g + 1, 3, none⟩) k1).trans f7))
    all_goals
     go_split_ands
     have HB5 : Hid (Below W.heap.size W w5) := by show Below _ _ _; assumption
     clear f0 f1 f2 f3 f4 f5 f6 f7 e0 e1 e2 e3 e4 e5 e6 e7 k0 k1
     have z0 : w5.cell? ⟨g + 2, 0, none⟩ = _ := (HB5.out.cell (p := ⟨g + 2, 0, none⟩) k2).trans (HZ.out 0 (by omega))
     have z1 : w5.cell? ⟨g + 2, 1, none⟩ = _ := (HB5.out.cell (p := ⟨g + 2, 1, none⟩) k2).trans (HZ.out 1 (by omega))
     have z2 : w5.cell? ⟨g + 2, 2, none⟩ = _ := (HB5.out.cell (p := ⟨g + 2, 2, none⟩) k2).trans (HZ.out 2 (by omega))
     have z3 : w5.cell? ⟨g + 2, 3, none⟩ = _ := (HB5.out.cell (p := ⟨g + 2, 3, none⟩) k2).trans (HZ.out 3 (by omega))
     have r0 : w5.frozen? ⟨g + 2, 0, none⟩ = _ := (HB5.out.frozen (p := ⟨g + 2, 0, none⟩) k2).trans (HF.out 0 (by omega))
     have r1 : w5.frozen? ⟨g + 2, 1, none⟩ = _ := (HB5.out.frozen (p := ⟨g + 2, 1, none⟩) k2).trans (HF.out 1 (by omega))
     have r2 : w5.frozen? ⟨g + 2, 2, none⟩ = _ := (HB5.out.frozen (p := ⟨g + 2, 2, none⟩) k2).trans (HF.out 2 (by omega))
     have r3 : w5.frozen? ⟨g + 2, 3, none⟩ = _ := (HB5.out.frozen (p := ⟨g + 2, 3, none⟩) k2).trans (HF.out 3 (by omega))
     clear HZ HF k2 HBB
     by_cases h1 : min (ad x v) (ad a c) ≤ max x a
     · have H1 := Lib.hid h1
       go_wp2_with (go_at_call 39; refine (sub_any' _ _ _).mono ?_; rintro e9 w9 ⟨rfl, rfl⟩)
       refine bodyPost_ret (results_mid rfl _ _ (g + 2) 0 [.int .i64 0, .int .i64 0, .int .i64 0, .int .i64 0] _ rfl (range4 (by go_simp) (by go_simp) (by go_simp) (by go_simp)) Try.underlying25 rfl (by kernel_rfl)) rfl ?_
       refine ⟨by rw [HV.out, ovV_zero (.inl (by have h9 := H1.out; omega))], ?_⟩
       have hbf : Below w.heap.size w w5 := HB.out.trans (HB5.out.mono HB.out.size)
       have hgg := HG.out
       refine below_set (below_set (below_set (below_set hbf _ _ _ ?_) _ _ _ ?_) _ _ _ ?_) _ _ _ ?_ <;> omega
     · have H1 := Lib.hid h1
       by_cases h2 : min (ad y h) (ad b d) ≤ max y b
       · have H2 := Lib.hid h2
         go_wp2_with (go_at_call 39; refine (sub_any' _ _ _).mono ?_; rintro e9 w9 ⟨rfl, rfl⟩)
         refine bodyPost_ret (results_mid rfl _ _ (g + 2) 0 [.int .i64 0, .int .i64 0, .int .i64 0, .int .i64 0] _ rfl (range4 (by go_simp) (by go_simp) (by go_simp) (by go_simp)) Try.underlying25 rfl (by kernel_rfl)) rfl ?_
         refine ⟨by rw [HV.out, ovV_zero (.inr (by have h9 := H2.out; omega))], ?_⟩
         have hbf : Below w.heap.size w w5 := HB.out.trans (HB5.out.mono HB.out.size)
         have hgg := HG.out
         refine below_set (below_set (below_set (below_set hbf _ _ _ ?_) _ _ _ ?_) _ _ _ ?_) _ _ _ ?_ <;> omega
       · have H2 := Lib.hid h2
         go_wp2_with (go_at_call 39; refine (sub_any' _ _ _).mono ?_; rintro e9 w9 ⟨rfl, rfl⟩)
         refine bodyPost_ret (results_mid rfl _ _ (g + 2) 0 [.int .i64 (max x a), .int .i64 (max y b), .int .i64 (sb (min (ad x v) (ad a c)) (max x a)), .int .i64 (sb (min (ad y h) (ad b d)) (max y b))] _ rfl (range4 (by go_simp) (by go_simp) (by go_simp) (by go_simp)) Try.underlying25 rfl (by kernel_rfl)) rfl ?_
         refine ⟨by rw [HV.out, ovV_some (by have h9 := H1.out; omega) (by have h9 := H2.out; omega)], ?_⟩
         have hbf : Below w.heap.size w w5 := HB.out.trans (HB5.out.mono HB.out.size)
         have hgg := HG.out
         refine below_set (below_set (below_set (below_set hbf _ _ _ ?_) _ _ _ ?_) _ _ _ ?_) _ _ _ ?_ <;> omega
set_option maxHeartbeats 4000000 in
set_option maxRecDepth 100000 in
theorem rover_any (x y v h a b c d : Int) (w : World) :
    Calls Try.prog 20 #[.agg #[.int .i64 x, .int .i64 y, .int .i64 v, .int .i64 h], .agg #[.int .i64 a, .int .i64 b, .int .i64 c, .int .i64 d]] w fun e w' => e = .returned (ovV x y v h a b c d) ∧ Below w.heap.size w w' := by
  obtain ⟨V, hV⟩ : ∃ V, V = ovV x y v h a b c d := ⟨_, rfl⟩
  rw [← hV]
  have HV := Lib.hid hV
  clear hV
  all_goals
    go_enter Try.func20, Try.ntmps20
    go_wp2_with fail
    obtain ⟨W, e1, s1, b1, f0, f1, f2, f3, f4, f5, f6, f7, hz, hf⟩ := three_laid w x y v h a b c d 23
    rw [e1]
    have HZ := Lib.hid hz
    have HF := Lib.hid hf
    have HB := Lib.hid b1
    have HS := Lib.hid s1
    have k0 : w.heap.size < W.heap.size := by omega
    have k1 : w.heap.size + 1 < W.heap.size := by omega
    have k2 : w.heap.size + 2 < W.heap.size := by omega
    have HBB := Below.refl W.heap.size W
    clear e1 b1 hz hf s1 
    have hgw : w.heap.size ≤ w.heap.size := Nat.le_refl _
    generalize hgg : w.heap.size = g at f0 f1 f2 f3 f4 f5 f6 f7 k0 k1 k2 HZ HF HS ⊢
    have HG := Lib.hid hgg
    clear hgg hgw
    go_region_held3 (fun w' => w'.cell? ⟨g, 0, none⟩ = some (.int .i64 x) ∧ w'.cell? ⟨g, 1, none⟩ = some (.int .i64 y) ∧ w'.cell? ⟨g, 2, none⟩ = some (.int .i64 v) ∧ w'.cell? ⟨g, 3, none⟩ = some (.int .i64 h) ∧ w'.cell? ⟨g + 1, 0, none⟩ = some (.int .i64 a) ∧ w'.cell? ⟨g + 1, 1, none⟩ = some (.int .i64 b) ∧ w'.cell? ⟨g + 1, 2, none⟩ = some (.int .i64 c) ∧ w'.cell? ⟨g + 1, 3, none⟩ = some (.int .i64 d) ∧ Below W.heap.size W w') (first | (refine ⟨?_, ?_, ?_, ?_, ?_, ?_, ?_, ?_, ?_⟩ <;> first | assumption | exact Below_drew HBB | exact below_heap HBB rfl rfl rfl rfl) | go_keep | exact below_heap HBB rfl rfl rfl rfl) (first | (go_at_call 17; refine (radd_any' _ _ _).mono ?_; rintro e9 w9 ⟨rfl, rfl⟩))
    go_split_ands
    go_wp2_with fail
    go_region_held3 (fun w' => w'.cell? ⟨g, 0, none⟩ = some (.int .i64 x) ∧ w'.cell? ⟨g, 1, none⟩ = some (.int .i64 y) ∧ w'.cell? ⟨g, 2, none⟩ = some (.int .i64 v) ∧ w'.cell? ⟨g, 3, none⟩ = some (.int .i64 h) ∧ w'.cell? ⟨g + 1, 0, none⟩ = some (.int .i64 a) ∧ w'.cell? ⟨g + 1, 1, none⟩ = some (.int .i64 b) ∧ w'.cell? ⟨g + 1, 2, none⟩ = some (.int .i64 c) ∧ w'.cell? ⟨g + 1, 3, none⟩ = some (.int .i64 d) ∧ Below W.heap.size W w') (first | (refine ⟨?_, ?_, ?_, ?_, ?_, ?_, ?_, ?_, ?_⟩ <;> first | assumption | exact Below_drew HBB | exact below_heap HBB rfl rfl rfl rfl) | go_keep | exact below_heap HBB rfl rfl rfl rfl) (first | (go_at_call 17; refine (radd_any' _ _ _).mono ?_; rintro e9 w9 ⟨rfl, rfl⟩))
    go_split_ands
    clear f0 f1 f2 f3 f4 f5 f6 f7 k0 k1
    rename World => w9
    have HB5 : Hid (Below w9.heap.size w9 w9.drew.drew) := Below_drew (Below_drew (Below.refl _ _))
    generalize hw5 : w9.drew.drew = w5 at *
    clear hw5
    have z0 : w5.cell? ⟨g + 2, 0, none⟩ = _ := (HB5.out.cell (p := ⟨g + 2, 0, none⟩) k2).trans (HZ.out 0 (by omega))
    have z1 : w5.cell? ⟨g + 2, 1, none⟩ = _ := (HB5.out.cell (p := ⟨g + 2, 1, none⟩) k2).trans (HZ.out 1 (by omega))
    have z2 : w5.cell? ⟨g + 2, 2, none⟩ = _ := (HB5.out.cell (p := ⟨g + 2, 2, none⟩) k2).trans (HZ.out 2 (by omega))
    have z3 : w5.cell? ⟨g + 2, 3, none⟩ = _ := (HB5.out.cell (p := ⟨g + 2, 3, none⟩) k2).trans (HZ.out 3 (by omega))
    have r0 : w5.frozen? ⟨g + 2, 0, none⟩ = _ := (HB5.out.frozen (p := ⟨g + 2, 0, none⟩) k2).trans (HF.out 0 (by omega))
    have r1 : w5.frozen? ⟨g + 2, 1, none⟩ = _ := (HB5.out.frozen (p := ⟨g + 2, 1, none⟩) k2).trans (HF.out 1 (by omega))
    have r2 : w5.frozen? ⟨g + 2, 2, none⟩ = _ := (HB5.out.frozen (p := ⟨g + 2, 2, none⟩) k2).trans (HF.out 2 (by omega))
    have r3 : w5.frozen? ⟨g + 2, 3, none⟩ = _ := (HB5.out.frozen (p := ⟨g + 2, 3, none⟩) k2).trans (HF.out 3 (by omega))
    clear HZ HF k2 HBB
    by_cases h1 : min (ad x v) (ad a c) ≤ max x a
    · have H1 := Lib.hid h1
      go_wp2_with (go_at_call 22; refine (rsub_any' _ _ _).mono ?_; rintro e9 w9 ⟨rfl, rfl⟩)
      refine bodyPost_ret (results_mid rfl _ _ (g + 2) 0 [.int .i64 0, .int .i64 0, .int .i64 0, .int .i64 0] _ rfl (range4 (by go_simp) (by go_simp) (by go_simp) (by go_simp)) Try.underlying23 rfl (by kernel_rfl)) rfl ?_
      refine ⟨by rw [HV.out, ovV_zero (.inl (by have h9 := H1.out; omega))], ?_⟩
      have hbf : Below w.heap.size w w5 := HB.out.trans (HB5.out.mono HB.out.size)
      have hgg := HG.out
      refine below_set (below_set (below_set (below_set hbf _ _ _ ?_) _ _ _ ?_) _ _ _ ?_) _ _ _ ?_ <;> omega
    · have H1 := Lib.hid h1
      by_cases h2 : min (ad y h) (ad b d) ≤ max y b
      · have H2 := Lib.hid h2
        go_wp2_with (go_at_call 22; refine (rsub_any' _ _ _).mono ?_; rintro e9 w9 ⟨rfl, rfl⟩)
        refine bodyPost_ret (results_mid rfl _ _ (g + 2) 0 [.int .i64 0, .int .i64 0, .int .i64 0, .int .i64 0] _ rfl (range4 (by go_simp) (by go_simp) (by go_simp) (by go_simp)) Try.underlying23 rfl (by kernel_rfl)) rfl ?_
        refine ⟨by rw [HV.out, ovV_zero (.inr (by have h9 := H2.out; omega))], ?_⟩
        have hbf : Below w.heap.size w w5 := HB.out.trans (HB5.out.mono HB.out.size)
        have hgg := HG.out
        refine below_set (below_set (below_set (below_set hbf _ _ _ ?_) _ _ _ ?_) _ _ _ ?_) _ _ _ ?_ <;> omega
      · have H2 := Lib.hid h2
        go_wp2_with (go_at_call 22; refine (rsub_any' _ _ _).mono ?_; rintro e9 w9 ⟨rfl, rfl⟩)
        refine bodyPost_ret (results_mid rfl _ _ (g + 2) 0 [.int .i64 (max x a), .int .i64 (max y b), .int .i64 (sb (min (ad x v) (ad a c)) (max x a)), .int .i64 (sb (min (ad y h) (ad b d)) (max y b))] _ rfl (range4 (by go_simp) (by go_simp) (by go_simp) (by go_simp)) Try.underlying23 rfl (by kernel_rfl)) rfl ?_
        refine ⟨by rw [HV.out, ovV_some (by have h9 := H1.out; omega) (by have h9 := H2.out; omega)], ?_⟩
        have hbf : Below w.heap.size w w5 := HB.out.trans (HB5.out.mono HB.out.size)
        have hgg := HG.out
        refine below_set (below_set (below_set (below_set hbf _ _ _ ?_) _ _ _ ?_) _ _ _ ?_) _ _ _ ?_ <;> omega
end Go.Proofs.Ytjpdnnjijcmioaa
