/- Contracts of a look's small methods, by the program and by the document. -/
import Derived.Test.YtcboeehmhpkodaaDsMath
import Derived.Test.YtcboeehmhpkodaaClW1
import Derived.Test.YtcboeehmhpkodaaAppAt
import Derived.Test.YtcboeehmhpkodaaBeside
import Derived.Test.YtcboeehmhpkodaaBlk
import Derived.Test.YtcboeehmhpkodaaChecked
import Derived.Tactics
import Derived.Tactics2
import Derived.Laws.Small
import Derived.Laws.StructEq
import Derived.KernelRfl
import Derived.Deep.QuietTactic
import Derived.BigQuiet
import Derived.RegionTactic
import Derived.Maps.AppendAt
import Derived.Deep.DeepCutAuto
import Derived.Deep.RegionWith
import Derived.Lib.MinMax
namespace Go.Proofs.Ytcboeehmhpkodaa
open Go.RowKit M Ds
set_option linter.unusedVariables false
set_option linter.unusedSimpArgs false
attribute [-go_sem] Builtin.append_
namespace Ds
set_option maxHeartbeats 2000000 in
set_option maxRecDepth 100000 in
theorem within_any (n : Int) (w : World) : Calls Try.prog 19 #[.int .i64 n] w fun e w' => e = .returned (.bool (decide (-2147483648 ≤ n ∧ n ≤ 2147483647))) ∧ Below w.heap.size w w' := by
  by_cases h1 : -2147483648 ≤ n
  · have b1 : decide (n ≥ -2147483648) = true := by simpa using h1
    by_cases h2 : n ≤ 2147483647
    · have HE : Hid (decide (-2147483648 ≤ n ∧ n ≤ 2147483647) = true) := by show _ = _; simp [h1, h2]
      have b2 : decide (n ≤ 2147483647) = true := by simpa using h2
      clear h1 h2
      go_enter Try.func19, Try.ntmps19
      go_wp2
      go_ret
      exact ⟨ret_bool' HE.out.symm, Below.refl _ _⟩
    · have HE : Hid (decide (-2147483648 ≤ n ∧ n ≤ 2147483647) = false) := by show _ = _; simp [h1, h2]
      have b2 : decide (n ≤ 2147483647) = false := by simpa using h2
      clear h1 h2
      go_enter Try.func19, Try.ntmps19
      go_wp2
      go_ret
      exact ⟨ret_bool' HE.out.symm, Below.refl _ _⟩
  · have HE : Hid (decide (-2147483648 ≤ n ∧ n ≤ 2147483647) = false) := by show _ = _; simp [h1]
    have b1 : decide (n ≥ -2147483648) = false := by simpa using h1
    clear h1
    go_enter Try.func19, Try.ntmps19
    go_wp2
    go_ret
    exact ⟨ret_bool' HE.out.symm, Below.refl _ _⟩
set_option maxHeartbeats 2000000 in
set_option maxRecDepth 100000 in
theorem placed_any (k m x y : Int) (w : World) : Calls Try.prog 18 #[.agg #[.int .i64 k, .int .i64 m, .int .i64 x, .int .i64 y]] w fun e w' => e = .returned (.bool (decide (x = 0 ∧ y = 0))) ∧ Below w.heap.size w w' := by
  by_cases h1 : x = 0
  · have b1 : (x == 0) = true := by simpa using h1
    by_cases h2 : y = 0
    · have HE : Hid ((decide (x = 0 ∧ y = 0)) = true) := by show _ = _; simp [h1, h2]
      have b2 : (y == 0) = true := by simpa using h2
      clear h1 h2
      go_enter Try.func18, Try.ntmps18
      go_wp2
      go_ret
      exact ⟨ret_bool' HE.out.symm, below_alloc w _⟩
    · have HE : Hid ((decide (x = 0 ∧ y = 0)) = false) := by show _ = _; simp [h1, h2]
      have b2 : (y == 0) = false := by simpa using h2
      clear h1 h2
      go_enter Try.func18, Try.ntmps18
      go_wp2
      go_ret
      exact ⟨ret_bool' HE.out.symm, below_alloc w _⟩
  · have b1 : (x == 0) = false := by simpa using h1
    by_cases h2 : y = 0
    · have HE : Hid ((decide (x = 0 ∧ y = 0)) = false) := by show _ = _; simp [h1, h2]
      have b2 : (y == 0) = true := by simpa using h2
      clear h1 h2
      go_enter Try.func18, Try.ntmps18
      go_wp2
      go_ret
      exact ⟨ret_bool' HE.out.symm, below_alloc w _⟩
    · have HE : Hid ((decide (x = 0 ∧ y = 0)) = false) := by show _ = _; simp [h1, h2]
      have b2 : (y == 0) = false := by simpa using h2
      clear h1 h2
      go_enter Try.func18, Try.ntmps18
      go_wp2
      go_ret
      exact ⟨ret_bool' HE.out.symm, below_alloc w _⟩
set_option maxHeartbeats 2000000 in
set_option maxRecDepth 100000 in
theorem entering_any (k m x y : Int) (w : World) : Calls Try.prog 10 #[.agg #[.int .i64 k, .int .i64 m, .int .i64 x, .int .i64 y]] w fun e w' => e = .returned (.bool (decide (k = 2 ∨ k = 3))) ∧ Below w.heap.size w w' := by
  by_cases h1 : k = 2
  · have b1 : (k == 2) = true := by simpa using h1
    by_cases h2 : k = 3
    · have HE : Hid ((decide (k = 2 ∨ k = 3)) = true) := by show _ = _; simp [h1, h2]
      have b2 : (k == 3) = true := by simpa using h2
      clear h1 h2
      go_enter Try.func10, Try.ntmps10
      go_wp2
      go_ret
      exact ⟨ret_bool' HE.out.symm, below_alloc w _⟩
    · have HE : Hid ((decide (k = 2 ∨ k = 3)) = true) := by show _ = _; simp [h1, h2]
      have b2 : (k == 3) = false := by simpa using h2
      clear h1 h2
      go_enter Try.func10, Try.ntmps10
      go_wp2
      go_ret
      exact ⟨ret_bool' HE.out.symm, below_alloc w _⟩
  · have b1 : (k == 2) = false := by simpa using h1
    by_cases h2 : k = 3
    · have HE : Hid ((decide (k = 2 ∨ k = 3)) = true) := by show _ = _; simp [h1, h2]
      have b2 : (k == 3) = true := by simpa using h2
      clear h1 h2
      go_enter Try.func10, Try.ntmps10
      go_wp2
      go_ret
      exact ⟨ret_bool' HE.out.symm, below_alloc w _⟩
    · have HE : Hid ((decide (k = 2 ∨ k = 3)) = false) := by show _ = _; simp [h1, h2]
      have b2 : (k == 3) = false := by simpa using h2
      clear h1 h2
      go_enter Try.func10, Try.ntmps10
      go_wp2
      go_ret
      exact ⟨ret_bool' HE.out.symm, below_alloc w _⟩
set_option maxHeartbeats 2000000 in
set_option maxRecDepth 100000 in
theorem leaving_any (k m x y : Int) (w : World) : Calls Try.prog 11 #[.agg #[.int .i64 k, .int .i64 m, .int .i64 x, .int .i64 y]] w fun e w' => e = .returned (.bool (decide (k = 5 ∨ k = 6))) ∧ Below w.heap.size w w' := by
  by_cases h1 : k = 5
  · have b1 : (k == 5) = true := by simpa using h1
    by_cases h2 : k = 6
    · have HE : Hid ((decide (k = 5 ∨ k = 6)) = true) := by show _ = _; simp [h1, h2]
      have b2 : (k == 6) = true := by simpa using h2
      clear h1 h2
      go_enter Try.func11, Try.ntmps11
      go_wp2
      go_ret
      exact ⟨ret_bool' HE.out.symm, below_alloc w _⟩
    · have HE : Hid ((decide (k = 5 ∨ k = 6)) = true) := by show _ = _; simp [h1, h2]
      have b2 : (k == 6) = false := by simpa using h2
      clear h1 h2
      go_enter Try.func11, Try.ntmps11
      go_wp2
      go_ret
      exact ⟨ret_bool' HE.out.symm, below_alloc w _⟩
  · have b1 : (k == 5) = false := by simpa using h1
    by_cases h2 : k = 6
    · have HE : Hid ((decide (k = 5 ∨ k = 6)) = true) := by show _ = _; simp [h1, h2]
      have b2 : (k == 6) = true := by simpa using h2
      clear h1 h2
      go_enter Try.func11, Try.ntmps11
      go_wp2
      go_ret
      exact ⟨ret_bool' HE.out.symm, below_alloc w _⟩
    · have HE : Hid ((decide (k = 5 ∨ k = 6)) = false) := by show _ = _; simp [h1, h2]
      have b2 : (k == 6) = false := by simpa using h2
      clear h1 h2
      go_enter Try.func11, Try.ntmps11
      go_wp2
      go_ret
      exact ⟨ret_bool' HE.out.symm, below_alloc w _⟩
set_option maxHeartbeats 2000000 in
set_option maxRecDepth 100000 in
theorem ghost_any (k m x y : Int) (w : World) : Calls Try.prog 8 #[.agg #[.int .i64 k, .int .i64 m, .int .i64 x, .int .i64 y]] w fun e w' => e = .returned (.bool (ghost k)) ∧ Below w.heap.size w w' := by
  have CL := Lib.hid (fun W => leaving_any k m x y W)
  have HE : Hid (ghost k = (decide (k = 4) || decide (k = 5 ∨ k = 6))) := by
    show _ = _
    unfold ghost
    rw [Bool.eq_iff_iff]
    simp
    omega
  generalize decide (k = 5 ∨ k = 6) = q at *
  by_cases h4 : k = 4
  · have b4 : (k == 4) = true := by simpa using h4
    have H4 : Hid (decide (k = 4) = true) := by show _ = _; simp [h4]
    clear h4
    go_enter Try.func8, Try.ntmps8
    go_wp2
    go_ret
    exact ⟨ret_bool' (by rw [HE.out, H4.out]; rfl), below_alloc w _⟩
  · have b4 : (k == 4) = false := by simpa using h4
    have H4 : Hid (decide (k = 4) = false) := by show _ = _; simp [h4]
    clear h4
    go_enter Try.func8, Try.ntmps8
    go_wp2_with (first | (go_at_call 11; (with_reducible refine (CL.out _).mono ?_); rintro e w1 ⟨rfl, hb1⟩; have HB1 := Lib.hid hb1; clear hb1))
    go_ret
    exact ⟨ret_bool' (by rw [HE.out, H4.out]; rfl), (below_alloc w _).trans (HB1.out.mono (by simp))⟩
set_option maxHeartbeats 2000000 in
set_option maxRecDepth 100000 in
theorem rghost_any (k m x y : Int) (w : World) : Calls Try.prog 9 #[.agg #[.int .i64 k, .int .i64 m, .int .i64 x, .int .i64 y]] w fun e w' => e = .returned (.bool (ghost k)) ∧ Below w.heap.size w w' := by
  by_cases h1 : 4 ≤ k
  · have b1 : decide (k ≥ 4) = true := by simpa using h1
    by_cases h2 : k ≤ 6
    · have HE : Hid ((ghost k) = true) := by show _ = _; simp [ghost, h1, h2]
      have b2 : decide (k ≤ 6) = true := by simpa using h2
      clear h1 h2
      go_enter Try.func9, Try.ntmps9
      go_wp2
      go_ret
      exact ⟨ret_bool' HE.out.symm, below_alloc w _⟩
    · have HE : Hid ((ghost k) = false) := by show _ = _; simp [ghost, h1, h2]
      have b2 : decide (k ≤ 6) = false := by simpa using h2
      clear h1 h2
      go_enter Try.func9, Try.ntmps9
      go_wp2
      go_ret
      exact ⟨ret_bool' HE.out.symm, below_alloc w _⟩
  · have b1 : decide (k ≥ 4) = false := by simpa using h1
    by_cases h2 : k ≤ 6
    · have HE : Hid ((ghost k) = false) := by show _ = _; simp [ghost, h1, h2]
      have b2 : decide (k ≤ 6) = true := by simpa using h2
      clear h1 h2
      go_enter Try.func9, Try.ntmps9
      go_wp2
      go_ret
      exact ⟨ret_bool' HE.out.symm, below_alloc w _⟩
    · have HE : Hid ((ghost k) = false) := by show _ = _; simp [ghost, h1, h2]
      have b2 : decide (k ≤ 6) = false := by simpa using h2
      clear h1 h2
      go_enter Try.func9, Try.ntmps9
      go_wp2
      go_ret
      exact ⟨ret_bool' HE.out.symm, below_alloc w _⟩
set_option maxHeartbeats 2000000 in
set_option maxRecDepth 100000 in
theorem may_any (k m x y : Int) (w : World) : Calls Try.prog 6 #[.agg #[.int .i64 k, .int .i64 m, .int .i64 x, .int .i64 y]] w fun e w' => e = .returned (.bool (mayB k m x y)) ∧ Below w.heap.size w w' := by
  have CP := Lib.hid (fun W => placed_any k m x y W)
  have CX := Lib.hid (fun W => within_any x W)
  have CY := Lib.hid (fun W => within_any y W)
  by_cases h0 : k < 0
  · have b0 : decide (k < 0) = true := by simpa using h0
    have HE : Hid (mayB k m x y = false) := by show _ = _; unfold mayB; simp; omega
    clear h0
    go_enter Try.func6, Try.ntmps6
    go_wp2
    go_ret
    exact ⟨ret_bool' HE.out.symm, below_alloc w _⟩
  · have b0 : decide (k < 0) = false := by simpa using h0
    by_cases h6 : k > 6
    · have b6 : decide (k > 6) = true := by simpa using h6
      have HE : Hid (mayB k m x y = false) := by show _ = _; unfold mayB; simp; omega
      clear h0 h6
      go_enter Try.func6, Try.ntmps6
      go_wp2
      go_ret
      exact ⟨ret_bool' HE.out.symm, below_alloc w _⟩
    · have b6 : decide (k > 6) = false := by simpa using h6
      by_cases hm0 : m = 0
      · have c0 : (m == 0) = true := by simpa using hm0
        have HE : Hid (mayB k m x y = decide (x = 0 ∧ y = 0)) := by show _ = _; unfold mayB; rw [Bool.eq_iff_iff]; simp; omega
        clear h0 h6 hm0
        generalize decide (x = 0 ∧ y = 0) = q at *
        go_enter Try.func6, Try.ntmps6
        go_wp2_with (first | (go_at_call 18; (with_reducible refine (CP.out _).mono ?_); rintro e w1 ⟨rfl, hb1⟩; have HB1 := Lib.hid hb1; clear hb1))
        go_ret
        exact ⟨ret_bool' HE.out.symm, (below_alloc w _).trans (HB1.out.mono (by simp))⟩
      · have c0 : (m == 0) = false := by simpa using hm0
        by_cases hm1 : m = 1
        · have c1 : (m == 1) = true := by simpa using hm1
          by_cases hk : k = 0
          · have d0 : (k == 0) = true := by simpa using hk
            have HE : Hid (mayB k m x y = (decide (-2147483648 ≤ x ∧ x ≤ 2147483647) && decide (-2147483648 ≤ y ∧ y ≤ 2147483647))) := by show _ = _; unfold mayB; rw [Bool.eq_iff_iff]; simp; omega
            clear h0 h6 hm0 hm1 hk
            generalize decide (-2147483648 ≤ x ∧ x ≤ 2147483647) = qx at *
            generalize decide (-2147483648 ≤ y ∧ y ≤ 2147483647) = qy at *
            cases qx
            · go_enter Try.func6, Try.ntmps6
              go_wp2_with (first | (go_at_call 19; (with_reducible refine (CX.out _).mono ?_); rintro e w1 ⟨rfl, hb1⟩; have HB1 := Lib.hid hb1; clear hb1))
              go_ret
              exact ⟨ret_bool' (by rw [HE.out]; rfl), (below_alloc w _).trans (HB1.out.mono (by simp))⟩
            · go_enter Try.func6, Try.ntmps6
              go_wp2_with fail
              (with_reducible refine (CX.out _).mono ?_)
              rintro e w1 ⟨rfl, hb1⟩
              have HB1 := Lib.hid hb1
              have y1 : w1.cell? ⟨w.heap.size, 3, none⟩ = some (.int .i64 y) := (hb1.cell (p := ⟨w.heap.size, 3, none⟩) (by simp)).trans (by simp)
              clear hb1
              go_wp2_with fail
              (with_reducible refine (CY.out _).mono ?_)
              rintro e w2 ⟨rfl, hb2⟩
              have HB2 := Lib.hid (HB1.out.trans (hb2.mono HB1.out.size))
              clear hb2
              go_wp2
              go_ret
              exact ⟨ret_bool' (by rw [HE.out]; rfl), (below_alloc w _).trans (HB2.out.mono (by simp))⟩
          · have d0 : (k == 0) = false := by simpa using hk
            have HE : Hid (mayB k m x y = false) := by show _ = _; unfold mayB; simp; omega
            clear h0 h6 hm0 hm1 hk
            go_enter Try.func6, Try.ntmps6
            go_wp2
            go_ret
            exact ⟨ret_bool' HE.out.symm, below_alloc w _⟩
        · have c1 : (m == 1) = false := by simpa using hm1
          by_cases hm2 : m = 2
          · have c2 : (m == 2) = true := by simpa using hm2
            by_cases hk : k = 0
            · have d0 : (k == 0) = true := by simpa using hk
              have HE : Hid (mayB k m x y = decide (x = 0 ∧ y = 0)) := by show _ = _; unfold mayB; rw [Bool.eq_iff_iff]; simp; omega
              clear h0 h6 hm0 hm1 hm2 hk
              generalize decide (x = 0 ∧ y = 0) = q at *
              go_enter Try.func6, Try.ntmps6
              go_wp2_with (first | (go_at_call 18; (with_reducible refine (CP.out _).mono ?_); rintro e w1 ⟨rfl, hb1⟩; have HB1 := Lib.hid hb1; clear hb1))
              go_ret
              exact ⟨ret_bool' HE.out.symm, (below_alloc w _).trans (HB1.out.mono (by simp))⟩
            · have d0 : (k == 0) = false := by simpa using hk
              have HE : Hid (mayB k m x y = false) := by show _ = _; unfold mayB; simp; omega
              clear h0 h6 hm0 hm1 hm2 hk
              go_enter Try.func6, Try.ntmps6
              go_wp2
              go_ret
              exact ⟨ret_bool' HE.out.symm, below_alloc w _⟩
          · have c2 : (m == 2) = false := by simpa using hm2
            have HE : Hid (mayB k m x y = false) := by show _ = _; unfold mayB; simp; omega
            clear h0 h6 hm0 hm1 hm2
            go_enter Try.func6, Try.ntmps6
            go_wp2
            go_ret
            exact ⟨ret_bool' HE.out.symm, below_alloc w _⟩
end Ds
end Go.Proofs.Ytcboeehmhpkodaa
