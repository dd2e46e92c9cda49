/- The walk of RectPoints. -/
import Derived.Test.YtjpdnnjijcmioaaRcW4
namespace Go.Proofs.Ytjpdnnjijcmioaa
open Go.RowKit M
set_option maxHeartbeats 4000000 in
set_option maxRecDepth 100000 in
theorem rectPoints_any (w : World) (x y v h p q : Int) :
    Calls Try.prog 3 #[.agg #[.int .i64 x, .int .i64 y, .int .i64 v, .int .i64 h], .int .i64 p, .int .i64 q] w fun e w' => e = .returned (.bool true) ∧ Below w.heap.size w w' := by
  go_enter Try.func3, Try.ntmps3
  go_wp2_with fail
  obtain ⟨W1, e1, s1, b1, f10, f11, f12, f13, _, _, _, _⟩ := rect_laid w x y v h 23
  rw [e1]
  have l0 : w.heap.size < W1.heap.size := by omega
  clear e1 s1
  refine (awake13_any _).mono ?_
  rintro e9 W2 ⟨rfl, hb2⟩
  have f20 := (hb2.cell (p := ⟨w.heap.size, 0, none⟩) l0).trans f10
  have f21 := (hb2.cell (p := ⟨w.heap.size, 1, none⟩) l0).trans f11
  have f22 := (hb2.cell (p := ⟨w.heap.size, 2, none⟩) l0).trans f12
  have f23 := (hb2.cell (p := ⟨w.heap.size, 3, none⟩) l0).trans f13
  have HB2 : Hid (Below w.heap.size w W2) := below_join b1 hb2
  have l2 : w.heap.size < W2.heap.size := Nat.lt_of_lt_of_le l0 hb2.size
  clear b1 hb2 f10 f11 f12 f13 l0
  generalize hgg : w.heap.size = g at f20 f21 f22 f23 l2 ⊢
  have HG := Lib.hid hgg
  clear hgg
  go_wp2_with fail
  obtain ⟨W3, e3, s3, b3, f34, f35, f36, f37, _, _, _, _⟩ := rect_laid W2 x y v h 25
  rw [e3]
  have l3 : g < W3.heap.size := by omega
  have l31 : W2.heap.size < W3.heap.size := by omega
  have f30 := (b3.cell (p := ⟨g, 0, none⟩) l2).trans f20
  have f31 := (b3.cell (p := ⟨g, 1, none⟩) l2).trans f21
  have f32 := (b3.cell (p := ⟨g, 2, none⟩) l2).trans f22
  have f33 := (b3.cell (p := ⟨g, 3, none⟩) l2).trans f23
  have HB3 : Hid (Below w.heap.size w W3) := below_join HB2.out b3
  clear f20 f21 f22 f23 l2 HB2 b3 e3 s3
  generalize W2.heap.size = g1 at *
  refine (at_any x y v h p q W3).mono ?_
  rintro e9 W4 ⟨rfl, hb4⟩
  go_wp2_with fail
  have f40 := (hb4.cell (p := ⟨g, 0, none⟩) l3).trans f30
  have f41 := (hb4.cell (p := ⟨g, 1, none⟩) l3).trans f31
  have f42 := (hb4.cell (p := ⟨g, 2, none⟩) l3).trans f32
  have f43 := (hb4.cell (p := ⟨g, 3, none⟩) l3).trans f33
  have f44 := (hb4.cell (p := ⟨g1, 0, none⟩) l31).trans f34
  have f45 := (hb4.cell (p := ⟨g1, 1, none⟩) l31).trans f35
  have f46 := (hb4.cell (p := ⟨g1, 2, none⟩) l31).trans f36
  have f47 := (hb4.cell (p := ⟨g1, 3, none⟩) l31).trans f37
  have HB4 : Hid (Below w.heap.size w W4) := below_join HB3.out hb4
  have l4 : g < W4.heap.size := Nat.lt_of_lt_of_le l3 hb4.size
  have l41 : g1 < W4.heap.size := Nat.lt_of_lt_of_le l31 hb4.size
  clear hb4 HB3 f30 f31 f32 f33 f34 f35 f36 f37 l3 l31
  obtain ⟨W, e5, s5, b5, f8, f9, f10, f11, _, _, _, _⟩ := rect_laid W4 (ad x p) (ad y q) v h 25
  rw [e5]
  have f0 := (b5.cell (p := ⟨g, 0, none⟩) l4).trans f40
  have f1 := (b5.cell (p := ⟨g, 1, none⟩) l4).trans f41
  have f2 := (b5.cell (p := ⟨g, 2, none⟩) l4).trans f42
  have f3 := (b5.cell (p := ⟨g, 3, none⟩) l4).trans f43
  have f4 := (b5.cell (p := ⟨g1, 0, none⟩) l41).trans f44
  have f5 := (b5.cell (p := ⟨g1, 1, none⟩) l41).trans f45
  have f6 := (b5.cell (p := ⟨g1, 2, none⟩) l41).trans f46
  have f7 := (b5.cell (p := ⟨g1, 3, none⟩) l41).trans f47
  have HB : Hid (Below w.heap.size w W) := below_join HB4.out b5
  have k0 : g < W.heap.size := by omega
  have k1 : g1 < W.heap.size := by omega
  have k2 : W4.heap.size < W.heap.size := by omega
  have HBB := Below.refl W.heap.size W
  clear e5 s5 b5 HB4 f40 f41 f42 f43 f44 f45 f46 f47 l4 l41
  generalize W4.heap.size = g2 at *
  go_region_held3 (fun w' => w'.cell? ⟨g, 0, none⟩ = some (.int .i64 x) ∧ w'.cell? ⟨g, 1, none⟩ = some (.int .i64 y) ∧ w'.cell? ⟨g, 2, none⟩ = some (.int .i64 v) ∧ w'.cell? ⟨g, 3, none⟩ = some (.int .i64 h) ∧ w'.cell? ⟨g1, 0, none⟩ = some (.int .i64 x) ∧ w'.cell? ⟨g1, 1, none⟩ = some (.int .i64 y) ∧ w'.cell? ⟨g1, 2, none⟩ = some (.int .i64 v) ∧ w'.cell? ⟨g1, 3, none⟩ = some (.int .i64 h) ∧ w'.cell? ⟨g2, 0, none⟩ = some (.int .i64 (ad x p)) ∧ w'.cell? ⟨g2, 1, none⟩ = some (.int .i64 (ad y q)) ∧ w'.cell? ⟨g2, 2, none⟩ = some (.int .i64 (v)) ∧ w'.cell? ⟨g2, 3, none⟩ = some (.int .i64 (h)) ∧ Below W.heap.size W w') (first | (refine ⟨?_, ?_, ?_, ?_, ?_, ?_, ?_, ?_, ?_, ?_, ?_, ?_, ?_⟩ <;> first | assumption | exact Below_drew HBB | exact below_heap HBB rfl rfl rfl rfl) | go_keep | exact below_heap HBB rfl rfl rfl rfl) (first | (go_at_call 14; refine (has_any _ _ _ _ _ _ _).mono ?_; rintro e9 w5 ⟨rfl, hb9⟩; go_split_ands; have B9 : Below W.heap.size W w5 := below_join (by assumption) hb9; have e0 := (B9.cell (p := ⟨g, 0, none⟩) k0).trans f0; have e1 := (B9.cell (p := ⟨g, 1, none⟩) k0).trans f1; have e2 := (B9.cell (p := ⟨g, 2, none⟩) k0).trans f2; have e3 := (B9.cell (p := ⟨g, 3, none⟩) k0).trans f3; have e4 := (B9.cell (p := ⟨g1, 0, none⟩) k1).trans f4; have e5 := (B9.cell (p := ⟨g1, 1, none⟩) k1).trans f5; have e6 := (B9.cell (p := ⟨g1, 2, none⟩) k1).trans f6; have e7 := (B9.cell (p := ⟨g1, 3, none⟩) k1).trans f7; have e8 := (B9.cell (p := ⟨g2, 0, none⟩) k2).trans f8; have e9 := (B9.cell (p := ⟨g2, 1, none⟩) k2).trans f9; have e10 := (B9.cell (p := ⟨g2, 2, none⟩) k2).trans f10; have e11 := (B9.cell (p := ⟨g2, 3, none⟩) k2).trans f11) | (go_at_call 15; refine (rhas_any _ _ _ _ _ _ _).mono ?_; rintro e9 w5 ⟨rfl, hb9⟩; go_split_ands; have B9 : Below W.heap.size W w5 := below_join (by assumption) hb9; have e0 := (B9.cell (p := ⟨g, 0, none⟩) k0).trans f0; have e1 := (B9.cell (p := ⟨g, 1, none⟩) k0).trans f1; have e2 := (B9.cell (p := ⟨g, 2, none⟩) k0).trans f2; have e3 := (B9.cell (p := ⟨g, 3, none⟩) k0).trans f3; have e4 := (B9.cell (p := ⟨g1, 0, none⟩) k1).trans f4; have e5 := (B9.cell (p := ⟨g1, 1, none⟩) k1).trans f5; have e6 := (B9.cell (p := ⟨g1, 2, none⟩) k1).trans f6; have e7 := (B9.cell (p := ⟨g1, 3, none⟩) k1).trans f7; have e8 := (B9.cell (p := ⟨g2, 0, none⟩) k2).trans f8; have e9 := (B9.cell (p := ⟨g2, 1, none⟩) k2).trans f9; have e10 := (B9.cell (p := ⟨g2, 2, none⟩) k2).trans f10; have e11 := (B9.cell (p := ⟨g2, 3, none⟩) k2).trans f11) | (go_at_call 16; refine (right_any _ _ _ _ _).mono ?_; rintro e9 w5 ⟨rfl, hb9⟩; go_split_ands; have B9 : Below W.heap.size W w5 := below_join (by assumption) hb9; have e0 := (B9.cell (p := ⟨g, 0, none⟩) k0).trans f0; have e1 := (B9.cell (p := ⟨g, 1, none⟩) k0).trans f1; have e2 := (B9.cell (p := ⟨g, 2, none⟩) k0).trans f2; have e3 := (B9.cell (p := ⟨g, 3, none⟩) k0).trans f3; have e4 := (B9.cell (p := ⟨g1, 0, none⟩) k1).trans f4; have e5 := (B9.cell (p := ⟨g1, 1, none⟩) k1).trans f5; have e6 := (B9.cell (p := ⟨g1, 2, none⟩) k1).trans f6; have e7 := (B9.cell (p := ⟨g1, 3, none⟩) k1).trans f7; have e8 := (B9.cell (p := ⟨g2, 0, none⟩) k2).trans f8; have e9 := (B9.cell (p := ⟨g2, 1, none⟩) k2).trans f9; have e10 := (B9.cell (p := ⟨g2, 2, none⟩) k2).trans f10; have e11 := (B9.cell (p := ⟨g2, 3, none⟩) k2).trans f11) | (go_at_call 18; refine (bottom_any _ _ _ _ _).mono ?_; rintro e9 w5 ⟨rfl, hb9⟩; go_split_ands; have B9 : Below W.heap.size W w5 := below_join (by assumption) hb9; have e0 := (B9.cell (p := ⟨g, 0, none⟩) k0).trans f0; have e1 := (B9.cell (p := ⟨g, 1, none⟩) k0).trans f1; have e2 := (B9.cell (p := ⟨g, 2, none⟩) k0).trans f2; have e3 := (B9.cell (p := ⟨g, 3, none⟩) k0).trans f3; have e4 := (B9.cell (p := ⟨g1, 0, none⟩) k1).trans f4; have e5 := (B9.cell (p := ⟨g1, 1, none⟩) k1).trans f5; have e6 := (B9.cell (p := ⟨g1, 2, none⟩) k1).trans f6; have e7 := (B9.cell (p := ⟨g1, 3, none⟩) k1).trans f7; have e8 := (B9.cell (p := ⟨g2, 0, none⟩) k2).trans f8; have e9 := (B9.cell (p := ⟨g2, 1, none⟩) k2).trans f9; have e10 := (B9.cell (p := ⟨g2, 2, none⟩) k2).trans f10; have e11 := (B9.cell (p := ⟨g2, 3, none⟩) k2).trans f11) | (go_at_call 17; refine (radd_any' _ _ _).mono ?_; rintro e9 w9 ⟨rfl, rfl⟩))
  all_goals
    go_split_ands
    have HBC : Below W.heap.size W w5 := (by assumption)
    have HBD := Lib.hid HBC
    go_wp2
    go_ret
    exact ⟨rfl, by have h9 := HG.out; subst h9; exact below_join HB.out HBD.out⟩
end Go.Proofs.Ytjpdnnjijcmioaa
