/- Contracts of the statements' small helpers: New, Told, awake; of the document's Sat and May. -/
import Derived.Test.YtenolokklkklbaaPhW7
import Derived.Test.YtenolokklkklbaaPhN
namespace Go.Proofs.Ytenolokklkklbaa
open Go.RowKit Ph
set_option linter.unusedVariables false
namespace Ph
def sx (x : Int) : Int := if x > 2147483647 then 2147483647 else if x < -2147483648 then -2147483648 else x
theorem sx_in (x : Int) : -2147483648 ≤ sx x ∧ sx x ≤ 2147483647 := by 
  unfold sx
  split
  · omega
  · split <;> omega
theorem ret_int {k : IntKind} {a b : Int} (h : a = b) : Ending.returned (.int k a) = .returned (.int k b) := by rw [h]
set_option maxRecDepth 100000 in
theorem rsat_any (x : Int) (w : World) :
    Calls Try.prog 8 #[.int .i64 x] w fun e w' => e = .returned (.int .i64 (sx x)) ∧ w' = w := by
  go_enter Try.func8, Try.ntmps8
  go_wp2
  all_goals
    go_ret
    exact ⟨ret_int (by unfold sx; first | (rw [if_pos (by omega)]; try omega) | (rw [if_neg (by omega), if_pos (by omega)]) | (rw [if_neg (by omega), if_neg (by omega)])), rfl⟩
set_option maxHeartbeats 1000000 in
set_option maxRecDepth 100000 in
theorem new_any (b : Bool) (w : World) :
    Calls Try.prog 7 #[.bool b] w fun e w' => e = .returned (.agg (stc (fresh b))) ∧ Below w.heap.size w w' := by
  cases b <;>
  · go_enter Try.func7, Try.ntmps7
    go_wp2
    (try simp only [Exit.inBlock, Exit.then])
    refine bodyPost_ret (results_cell_row rfl _ _ w.heap.size 27 _ (0, 0) _ rfl (heap_alloc_new w _) Try.underlying27 rfl (by kernel_rfl)) rfl ?_
    exact ⟨rfl, below_alloc w _⟩
set_option maxHeartbeats 1000000 in
set_option maxRecDepth 100000 in
theorem told_any (s : St) (w : World) :
    Calls Try.prog 18 #[.agg (stc s)] w fun e w' => e = .returned (.agg (stc s)) ∧ Below w.heap.size w w' := by
  unfold stc
  go_enter Try.func18, Try.ntmps18
  go_wp2
  (try simp only [Exit.inBlock, Exit.then])
  refine bodyPost_ret (results_cell_row rfl _ _ (w.heap.size + 1) 42 _ (0, 0) _ rfl (Blk.new' _ _ _ _ (by simp)) Try.underlying42 rfl (by kernel_rfl)) rfl ?_
  exact ⟨rfl, (below_alloc w _).alloc (by simp) _⟩
/-- a look that may be -/
structure Fit (k m x y : Int) : Prop where
  k0 : 0 ≤ k
  k6 : k ≤ 6
  m0 : 0 ≤ m
  m2 : m ≤ 2
  still : m ≠ 0 → k = 0
  off : m ≠ 1 → x = 0 ∧ y = 0
  inx : m = 1 → -2147483648 ≤ x ∧ x ≤ 2147483647
  iny : m = 1 → -2147483648 ≤ y ∧ y ≤ 2147483647
set_option maxHeartbeats 2000000 in
set_option maxRecDepth 100000 in
theorem may_any (k m x y : Int) (h : Fit k m x y) (w : World) :
    Calls Try.prog 11 #[.agg #[.int .i64 k, .int .i64 m, .int .i64 x, .int .i64 y]] w fun e w' => e = .returned (.bool true) ∧ Below w.heap.size w w' := by
  obtain ⟨a0, a1, a2, a3, a4, a5, a6, a7⟩ := h
  have b0 : decide (k < 0) = false := by simpa using a0
  have b1 : decide (k > 6) = false := by simpa using a1
  have b2 : decide (m < 0) = false := by simpa using a2
  have b3 : decide (m > 2) = false := by simpa using a3
  by_cases hm : m = 1
  · subst hm
    obtain rfl := a4 (by omega)
    obtain ⟨c0, c1⟩ := a6 rfl
    obtain ⟨d0, d1⟩ := a7 rfl
    have e0 : decide (x ≥ -2147483648) = true := by simpa using c0
    have e1 : decide (x ≤ 2147483647) = true := by simpa using c1
    have e2 : decide (y ≥ -2147483648) = true := by simpa using d0
    have e3 : decide (y ≤ 2147483647) = true := by simpa using d1
    clear a0 a1 a2 a3 a4 a5 a6 a7
    go_enter Try.func11, Try.ntmps11
    go_wp2
    go_ret
    exact ⟨rfl, below_alloc w _⟩
  · obtain ⟨rfl, rfl⟩ := a5 hm
    by_cases hk : k = 0
    · subst hk
      clear a4 a5 a6 a7
      have hm1 : (m == 1) = false := by simpa using hm
      go_enter Try.func11, Try.ntmps11
      go_wp2
      go_ret
      exact ⟨rfl, below_alloc w _⟩
    · have hm0 : m = 0 := by
        rcases Classical.em (m = 0) with h9 | h9
        · exact h9
        · exact absurd (a4 h9) hk
      subst hm0
      clear a4 a5 a6 a7
      have hk2 : decide (k > 0) = true := by simp; omega
      go_enter Try.func11, Try.ntmps11
      go_wp2
      go_ret
      exact ⟨rfl, below_alloc w _⟩
theorem e1 : enter (fresh true) 5 false = ⟨⟨2, 0, 0, 0, 5, 0⟩, [1, 2], 1, 0, false, false, false⟩ := rfl
theorem e2 : leave ⟨2, 0, 0, 0, 5, 0⟩ 3 false = ⟨⟨5, 0, 0, 0, 3, 0⟩, [4, 5, 6], 1, 0, true, false, false⟩ := rfl
set_option maxHeartbeats 4000000 in
set_option maxRecDepth 100000 in
theorem awake_any (w : World) : Calls Try.prog 6 #[] w fun e w' => e = .returned (.bool true) ∧ Below w.heap.size w w' := by
  go_enter Try.func6, Try.ntmps6
  go_wp2_with fail
  (with_reducible refine (new_any true _).mono ?_)
  rintro e w1 ⟨rfl, hb1⟩
  have HB1 := Lib.hid hb1
  clear hb1
  go_wp2_with fail
  (with_reducible refine (enter_any (fresh true) 5 false _).mono ?_)
  rintro e w2 ⟨hv, rfl, ho, hb2⟩
  rw [e1] at ho ⊢
  have HB2 := Lib.hid (HB1.out.trans (hb2.mono HB1.out.size))
  obtain ⟨A, c, rfl, _, _⟩ := own_slice ho
  unfold ouc
  have C2 := Lib.hid (fun W => leave_any ⟨2, 0, 0, 0, 5, 0⟩ 3 false W)
  unfold stc at C2
  clear hb2 ho
  go_wp2_with fail
  (with_reducible refine (C2.out _).mono ?_)
  rintro e w3 ⟨hv3, rfl, ho3, hb3⟩
  rw [e2] at ho3 ⊢
  obtain ⟨A3, c3, rfl, hc3, hm3, hat3⟩ := at_of_own' ho3
  unfold ouc
  have HB3 := Lib.hid (HB2.out.trans (((below_alloc w2 _).trans (hb3.mono (by simp))).mono HB2.out.size))
  have HAT3 := Lib.hid hat3
  have hk3 : w2.heap.size < w3.heap.size := by have := hb3.size; simp at this; omega
  have x0 : w3.cell? ⟨w2.heap.size, 0, none⟩ = some (.int .i64 2) := (hb3.cell (p := ⟨w2.heap.size, 0, none⟩) (by simp)).trans (by simp)
  have x7 : w3.cell? ⟨w2.heap.size, 7, none⟩ = some (.int .i64 1) := (hb3.cell (p := ⟨w2.heap.size, 7, none⟩) (by simp)).trans (by simp)
  clear ho3 hb3 hat3 C2
  go_wp2_with fail
  (with_reducible refine (numbersI_any A3 _ 3 c3 3 3 [4, 5, 6] [4, 5, 6] _ rfl rfl (by omega) (by omega) ((HAT3.out.alloc _).alloc _) (at_new _ #[.int .i64 4, .int .i64 5, .int .i64 6] 3 _ (by simp) _ rfl)).mono ?_)
  rintro e w4 ⟨rfl, q, rfl⟩
  go_wp2
  go_ret
  have h9 := (HB3.out.alloc HB3.out.size (.cells #[.int .i64 5, .int .i64 0, .int .i64 0, .int .i64 0, .int .i64 3, .int .i64 0, .slice A3 3 c3, .int .i64 1, .int .i64 0, .bool true, .bool false, .bool false] 34)).alloc (by have := HB3.out.size; simp; omega) (.cells #[.int .i64 4, .int .i64 5, .int .i64 6] 3)
  exact ⟨rfl, ⟨h9.os, h9.tape, h9.output, h9.size, h9.block⟩⟩
end Ph
end Go.Proofs.Ytenolokklkklbaa
