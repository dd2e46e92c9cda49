/- The walk of RectOver. -/
import Derived.Test.YtjpdnnjijcmioaaRcW3
import Derived.Test.YtjpdnnjijcmioaaRcW4
namespace Go.Proofs.Ytjpdnnjijcmioaa
open Go.RowKit M
set_option maxHeartbeats 4000000 in
set_option maxRecDepth 100000 in
theorem rectOver_any (w : World) (x y v h a b c d : Int) :
    Calls Try.prog 4 #[.agg #[.int .i64 x, .int .i64 y, .int .i64 v, .int .i64 h], .agg #[.int .i64 a, .int .i64 b, .int .i64 c, .int .i64 d]] w fun e w' => e = .returned (.bool true) ∧ Below w.heap.size w w' := by
  obtain ⟨p, q, r, s, hV⟩ := ovV_four x y v h a b c d
  have C1 : ∀ w, Calls Try.prog 19 #[.agg #[.int .i64 x, .int .i64 y, .int .i64 v, .int .i64 h], .agg #[.int .i64 a, .int .i64 b, .int .i64 c, .int .i64 d]] w fun e w' => e = .returned (.agg #[.int .i64 p, .int .i64 q, .int .i64 r, .int .i64 s]) ∧ Below w.heap.size w w' := fun w => hV ▸ over_any x y v h a b c d w
  have C2 : ∀ w, Calls Try.prog 19 #[.agg #[.int .i64 a, .int .i64 b, .int .i64 c, .int .i64 d], .agg #[.int .i64 x, .int .i64 y, .int .i64 v, .int .i64 h]] w fun e w' => e = .returned (.agg #[.int .i64 p, .int .i64 q, .int .i64 r, .int .i64 s]) ∧ Below w.heap.size w w' := fun w => hV ▸ (ovV_comm a b c d x y v h) ▸ over_any a b c d x y v h w
  have C3 : ∀ w, Calls Try.prog 20 #[.agg #[.int .i64 x, .int .i64 y, .int .i64 v, .int .i64 h], .agg #[.int .i64 a, .int .i64 b, .int .i64 c, .int .i64 d]] w fun e w' => e = .returned (.agg #[.int .i64 p, .int .i64 q, .int .i64 r, .int .i64 s]) ∧ Below w.heap.size w w' := fun w => hV ▸ rover_any x y v h a b c d w
  clear hV
  go_enter Try.func4, Try.ntmps4
  go_wp2_with fail
  obtain ⟨W1, e1, s1, b1, f10, f11, f12, f13, _, _, _, _⟩ := rect_laid w x y v h 23
  rw [e1]
  obtain ⟨W2, e2, s2, b2, f24, f25, f26, f27, _, _, _, _⟩ := rect_laid W1 a b c d 23
  rw [e2]
  rw [s1] at f24 f25 f26 f27
  have HB2 : Hid (Below w.heap.size w W2) := below_join b1 b2
  have l0 : w.heap.size < W1.heap.size := by omega
  have l1 : w.heap.size < W2.heap.size := by omega
  have l2 : w.heap.size + 1 < W2.heap.size := by omega
  have f20 := (b2.cell (p := ⟨w.heap.size, 0, none⟩) l0).trans f10
  have f21 := (b2.cell (p := ⟨w.heap.size, 1, none⟩) l0).trans f11
  have f22 := (b2.cell (p := ⟨w.heap.size, 2, none⟩) l0).trans f12
  have f23 := (b2.cell (p := ⟨w.heap.size, 3, none⟩) l0).trans f13
  clear e1 e2 b1 b2 s1 s2 f10 f11 f12 f13 l0
  refine (awake13_any _).mono ?_
  rintro e9 W ⟨rfl, hb⟩
  have f0 := (hb.cell (p := ⟨w.heap.size, 0, none⟩) l1).trans f20
  have f1 := (hb.cell (p := ⟨w.heap.size, 1, none⟩) l1).trans f21
  have f2 := (hb.cell (p := ⟨w.heap.size, 2, none⟩) l1).trans f22
  have f3 := (hb.cell (p := ⟨w.heap.size, 3, none⟩) l1).trans f23
  have f4 := (hb.cell (p := ⟨w.heap.size + 1, 0, none⟩) l2).trans f24
  have f5 := (hb.cell (p := ⟨w.heap.size + 1, 1, none⟩) l2).trans f25
  have f6 := (hb.cell (p := ⟨w.heap.size + 1, 2, none⟩) l2).trans f26
  have f7 := (hb.cell (p := ⟨w.heap.size + 1, 3, none⟩) l2).trans f27
  have HB : Hid (Below w.heap.size w W) := below_join HB2.out hb
  have k0 : w.heap.size < W.heap.size := Nat.lt_of_lt_of_le l1 hb.size
  have k1 : w.heap.size + 1 < W.heap.size := Nat.lt_of_lt_of_le l2 hb.size
  have HBB := Below.refl W.heap.size W
  clear hb f20 f21 f22 f23 f24 f25 f26 f27 l1 l2 HB2
  go_wp2_with fail
  generalize hgg : w.heap.size = g at f0 f1 f2 f3 f4 f5 f6 f7 k0 k1 ⊢
  have HG := Lib.hid hgg
  clear hgg
  go_region_held3 (fun w' => w'.cell? ⟨g, 0, none⟩ = some (.int .i64 x) ∧ w'.cell? ⟨g, 1, none⟩ = some (.int .i64 y) ∧ w'.cell? ⟨g, 2, none⟩ = some (.int .i64 v) ∧ w'.cell? ⟨g, 3, none⟩ = some (.int .i64 h) ∧ w'.cell? ⟨g + 1, 0, none⟩ = some (.int .i64 a) ∧ w'.cell? ⟨g + 1, 1, none⟩ = some (.int .i64 b) ∧ w'.cell? ⟨g + 1, 2, none⟩ = some (.int .i64 c) ∧ w'.cell? ⟨g + 1, 3, none⟩ = some (.int .i64 d) ∧ Below W.heap.size W w') (first | (refine ⟨?_, ?_, ?_, ?_, ?_, ?_, ?_, ?_, ?_⟩ <;> first | assumption | exact Below_drew HBB | exact below_heap HBB rfl rfl rfl rfl) | go_keep | exact below_heap HBB rfl rfl rfl rfl) (first | (go_at_call 19; (with_reducible refine (C1 _).mono ?_); rintro e9 w5 ⟨rfl, hb9⟩; go_split_ands; have B9 : Below W.heap.size W w5 := below_join (by assumption) hb9; have e0 := (B9.cell (p := ⟨g, 0, none⟩) k0).trans f0; have e1 := (B9.cell (p := ⟨g, 1, none⟩) k0).trans f1; have e2 := (B9.cell (p := ⟨g, 2, none⟩) k0).trans f2; have e3 := (B9.cell (p := ⟨g, 3, none⟩) k0).trans f3; have e4 := (B9.cell (p := ⟨g + 1, 0, none⟩) k1).trans f4; have e5 := (B9.cell (p := ⟨g + 1, 1, none⟩) k1).trans f5; have e6 := (B9.cell (p := ⟨g + 1, 2, none⟩) k1).trans f6; have e7 := (B9.cell (p := ⟨g + 1, 3, none⟩) k1).trans f7) | (go_at_call 19; (with_reducible refine (C2 _).mono ?_); rintro e9 w5 ⟨rfl, hb9⟩; go_split_ands; have B9 : Below W.heap.size W w5 := below_join (by assumption) hb9; have e0 := (B9.cell (p := ⟨g, 0, none⟩) k0).trans f0; have e1 := (B9.cell (p := ⟨g, 1, none⟩) k0).trans f1; have e2 := (B9.cell (p := ⟨g, 2, none⟩) k0).trans f2; have e3 := (B9.cell (p := ⟨g, 3, none⟩) k0).trans f3; have e4 := (B9.cell (p := ⟨g + 1, 0, none⟩) k1).trans f4; have e5 := (B9.cell (p := ⟨g + 1, 1, none⟩) k1).trans f5; have e6 := (B9.cell (p := ⟨g + 1, 2, none⟩) k1).trans f6; have e7 := (B9.cell (p := ⟨g + 1, 3, none⟩) k1).trans f7) | (go_at_call 20; (with_reducible refine (C3 _).mono ?_); rintro e9 w5 ⟨rfl, hb9⟩; go_split_ands; have B9 : Below W.heap.size W w5 := below_join (by assumption) hb9; have e0 := (B9.cell (p := ⟨g, 0, none⟩) k0).trans f0; have e1 := (B9.cell (p := ⟨g, 1, none⟩) k0).trans f1; have e2 := (B9.cell (p := ⟨g, 2, none⟩) k0).trans f2; have e3 := (B9.cell (p := ⟨g, 3, none⟩) k0).trans f3; have e4 := (B9.cell (p := ⟨g + 1, 0, none⟩) k1).trans f4; have e5 := (B9.cell (p := ⟨g + 1, 1, none⟩) k1).trans f5; have e6 := (B9.cell (p := ⟨g + 1, 2, none⟩) k1).trans f6; have e7 := (B9.cell (p := ⟨g + 1, 3, none⟩) k1).trans f7))
  all_goals
    go_split_ands
    have HBC : Below W.heap.size W w5 := (by assumption)
    have HBD := Lib.hid HBC
    go_wp2
    go_ret
    exact ⟨rfl, by have h9 := HG.out; subst h9; exact below_join HB.out HBD.out⟩
end Go.Proofs.Ytjpdnnjijcmioaa
