/- Contract of the document's May; of both Classes. -/
import Derived.Test.YtcboeehmhpkodaaDsW1
namespace Go.Proofs.Ytcboeehmhpkodaa
open Go.RowKit M Ds
set_option linter.unusedVariables false
set_option linter.unusedSimpArgs false
attribute [-go_sem] Builtin.append_
namespace Ds
set_option maxHeartbeats 2000000 in
set_option maxRecDepth 100000 in
theorem rmay_any (k m x y : Int) (w : World) : Calls Try.prog 7 #[.agg #[.int .i64 k, .int .i64 m, .int .i64 x, .int .i64 y]] w fun e w' => e = .returned (.bool (mayB k m x y)) ∧ Below w.heap.size w w' := by
  by_cases h0 : k < 0
  · have b0 : decide (k < 0) = true := by simpa using h0
    have HE : Hid (mayB k m x y = false) := by show _ = _; unfold mayB; simp; omega
    clear h0
    go_enter Try.func7, Try.ntmps7
    go_wp2
    go_ret
    exact ⟨ret_bool' HE.out.symm, below_alloc w _⟩
  · by_cases h1 : k > 6
    · have b0 : decide (k < 0) = false := by simpa using h0
      have b1 : decide (k > 6) = true := by simpa using h1
      have HE : Hid (mayB k m x y = false) := by show _ = _; unfold mayB; simp; omega
      clear h0 h1
      go_enter Try.func7, Try.ntmps7
      go_wp2
      go_ret
      exact ⟨ret_bool' HE.out.symm, below_alloc w _⟩
    · by_cases h2 : m < 0
      · have b0 : decide (k < 0) = false := by simpa using h0
        have b1 : decide (k > 6) = false := by simpa using h1
        have b2 : decide (m < 0) = true := by simpa using h2
        have HE : Hid (mayB k m x y = false) := by show _ = _; unfold mayB; simp; omega
        clear h0 h1 h2
        go_enter Try.func7, Try.ntmps7
        go_wp2
        go_ret
        exact ⟨ret_bool' HE.out.symm, below_alloc w _⟩
      · by_cases h3 : m > 2
        · have b0 : decide (k < 0) = false := by simpa using h0
          have b1 : decide (k > 6) = false := by simpa using h1
          have b2 : decide (m < 0) = false := by simpa using h2
          have b3 : decide (m > 2) = true := by simpa using h3
          have HE : Hid (mayB k m x y = false) := by show _ = _; unfold mayB; simp; omega
          clear h0 h1 h2 h3
          go_enter Try.func7, Try.ntmps7
          go_wp2
          go_ret
          exact ⟨ret_bool' HE.out.symm, below_alloc w _⟩
        · by_cases h4 : k > 0
          · by_cases h5 : m > 0
            · have b0 : decide (k < 0) = false := by simpa using h0
              have b1 : decide (k > 6) = false := by simpa using h1
              have b2 : decide (m < 0) = false := by simpa using h2
              have b3 : decide (m > 2) = false := by simpa using h3
              have b4 : decide (k > 0) = true := by simpa using h4
              have b5 : decide (m > 0) = true := by simpa using h5
              have HE : Hid (mayB k m x y = false) := by show _ = _; unfold mayB; simp; omega
              clear h0 h1 h2 h3 h4 h5
              go_enter Try.func7, Try.ntmps7
              go_wp2
              go_ret
              exact ⟨ret_bool' HE.out.symm, below_alloc w _⟩
            · by_cases h6 : m = 1
              · by_cases h7 : x ≥ -2147483648
                · by_cases h8 : x ≤ 2147483647
                  · by_cases h9 : y ≥ -2147483648
                    · by_cases h10 : y ≤ 2147483647
                      · have b0 : decide (k < 0) = false := by simpa using h0
                        have b1 : decide (k > 6) = false := by simpa using h1
                        have b2 : decide (m < 0) = false := by simpa using h2
                        have b3 : decide (m > 2) = false := by simpa using h3
                        have b4 : decide (k > 0) = true := by simpa using h4
                        have b5 : decide (m > 0) = false := by simpa using h5
                        have b6 : (m == 1) = true := by simpa using h6
                        have b7 : decide (x ≥ -2147483648) = true := by simpa using h7
                        have b8 : decide (x ≤ 2147483647) = true := by simpa using h8
                        have b9 : decide (y ≥ -2147483648) = true := by simpa using h9
                        have b10 : decide (y ≤ 2147483647) = true := by simpa using h10
                        have HE : Hid (mayB k m x y = true) := by show _ = _; unfold mayB; simp; omega
                        clear h0 h1 h2 h3 h4 h5 h6 h7 h8 h9 h10
                        go_enter Try.func7, Try.ntmps7
                        go_wp2
                        go_ret
                        exact ⟨ret_bool' HE.out.symm, below_alloc w _⟩
                      · have b0 : decide (k < 0) = false := by simpa using h0
                        have b1 : decide (k > 6) = false := by simpa using h1
                        have b2 : decide (m < 0) = false := by simpa using h2
                        have b3 : decide (m > 2) = false := by simpa using h3
                        have b4 : decide (k > 0) = true := by simpa using h4
                        have b5 : decide (m > 0) = false := by simpa using h5
                        have b6 : (m == 1) = true := by simpa using h6
                        have b7 : decide (x ≥ -2147483648) = true := by simpa using h7
                        have b8 : decide (x ≤ 2147483647) = true := by simpa using h8
                        have b9 : decide (y ≥ -2147483648) = true := by simpa using h9
                        have b10 : decide (y ≤ 2147483647) = false := by simpa using h10
                        have HE : Hid (mayB k m x y = false) := by show _ = _; unfold mayB; simp; omega
                        clear h0 h1 h2 h3 h4 h5 h6 h7 h8 h9 h10
                        go_enter Try.func7, Try.ntmps7
                        go_wp2
                        go_ret
                        exact ⟨ret_bool' HE.out.symm, below_alloc w _⟩
                    · have b0 : decide (k < 0) = false := by simpa using h0
                      have b1 : decide (k > 6) = false := by simpa using h1
                      have b2 : decide (m < 0) = false := by simpa using h2
                      have b3 : decide (m > 2) = false := by simpa using h3
                      have b4 : decide (k > 0) = true := by simpa using h4
                      have b5 : decide (m > 0) = false := by simpa using h5
                      have b6 : (m == 1) = true := by simpa using h6
                      have b7 : decide (x ≥ -2147483648) = true := by simpa using h7
                      have b8 : decide (x ≤ 2147483647) = true := by simpa using h8
                      have b9 : decide (y ≥ -2147483648) = false := by simpa using h9
                      have HE : Hid (mayB k m x y = false) := by show _ = _; unfold mayB; simp; omega
                      clear h0 h1 h2 h3 h4 h5 h6 h7 h8 h9
                      go_enter Try.func7, Try.ntmps7
                      go_wp2
                      go_ret
                      exact ⟨ret_bool' HE.out.symm, below_alloc w _⟩
                  · have b0 : decide (k < 0) = false := by simpa using h0
                    have b1 : decide (k > 6) = false := by simpa using h1
                    have b2 : decide (m < 0) = false := by simpa using h2
                    have b3 : decide (m > 2) = false := by simpa using h3
                    have b4 : decide (k > 0) = true := by simpa using h4
                    have b5 : decide (m > 0) = false := by simpa using h5
                    have b6 : (m == 1) = true := by simpa using h6
                    have b7 : decide (x ≥ -2147483648) = true := by simpa using h7
                    have b8 : decide (x ≤ 2147483647) = false := by simpa using h8
                    have HE : Hid (mayB k m x y = false) := by show _ = _; unfold mayB; simp; omega
                    clear h0 h1 h2 h3 h4 h5 h6 h7 h8
                    go_enter Try.func7, Try.ntmps7
                    go_wp2
                    go_ret
                    exact ⟨ret_bool' HE.out.symm, below_alloc w _⟩
                · have b0 : decide (k < 0) = false := by simpa using h0
                  have b1 : decide (k > 6) = false := by simpa using h1
                  have b2 : decide (m < 0) = false := by simpa using h2
                  have b3 : decide (m > 2) = false := by simpa using h3
                  have b4 : decide (k > 0) = true := by simpa using h4
                  have b5 : decide (m > 0) = false := by simpa using h5
                  have b6 : (m == 1) = true := by simpa using h6
                  have b7 : decide (x ≥ -2147483648) = false := by simpa using h7
                  have HE : Hid (mayB k m x y = false) := by show _ = _; unfold mayB; simp; omega
                  clear h0 h1 h2 h3 h4 h5 h6 h7
                  go_enter Try.func7, Try.ntmps7
                  go_wp2
                  go_ret
                  exact ⟨ret_bool' HE.out.symm, below_alloc w _⟩
              · by_cases h7 : x = 0
                · by_cases h8 : y = 0
                  · have b0 : decide (k < 0) = false := by simpa using h0
                    have b1 : decide (k > 6) = false := by simpa using h1
                    have b2 : decide (m < 0) = false := by simpa using h2
                    have b3 : decide (m > 2) = false := by simpa using h3
                    have b4 : decide (k > 0) = true := by simpa using h4
                    have b5 : decide (m > 0) = false := by simpa using h5
                    have b6 : (m == 1) = false := by simpa using h6
                    have b7 : (x == 0) = true := by simpa using h7
                    have b8 : (y == 0) = true := by simpa using h8
                    have HE : Hid (mayB k m x y = true) := by show _ = _; unfold mayB; simp; omega
                    clear h0 h1 h2 h3 h4 h5 h6 h7 h8
                    go_enter Try.func7, Try.ntmps7
                    go_wp2
                    go_ret
                    exact ⟨ret_bool' HE.out.symm, below_alloc w _⟩
                  · have b0 : decide (k < 0) = false := by simpa using h0
                    have b1 : decide (k > 6) = false := by simpa using h1
                    have b2 : decide (m < 0) = false := by simpa using h2
                    have b3 : decide (m > 2) = false := by simpa using h3
                    have b4 : decide (k > 0) = true := by simpa using h4
                    have b5 : decide (m > 0) = false := by simpa using h5
                    have b6 : (m == 1) = false := by simpa using h6
                    have b7 : (x == 0) = true := by simpa using h7
                    have b8 : (y == 0) = false := by simpa using h8
                    have HE : Hid (mayB k m x y = false) := by show _ = _; unfold mayB; simp; omega
                    clear h0 h1 h2 h3 h4 h5 h6 h7 h8
                    go_enter Try.func7, Try.ntmps7
                    go_wp2
                    go_ret
                    exact ⟨ret_bool' HE.out.symm, below_alloc w _⟩
                · have b0 : decide (k < 0) = false := by simpa using h0
                  have b1 : decide (k > 6) = false := by simpa using h1
                  have b2 : decide (m < 0) = false := by simpa using h2
                  have b3 : decide (m > 2) = false := by simpa using h3
                  have b4 : decide (k > 0) = true := by simpa using h4
                  have b5 : decide (m > 0) = false := by simpa using h5
                  have b6 : (m == 1) = false := by simpa using h6
                  have b7 : (x == 0) = false := by simpa using h7
                  have HE : Hid (mayB k m x y = false) := by show _ = _; unfold mayB; simp; omega
                  clear h0 h1 h2 h3 h4 h5 h6 h7
                  go_enter Try.func7, Try.ntmps7
                  go_wp2
                  go_ret
                  exact ⟨ret_bool' HE.out.symm, below_alloc w _⟩
          · by_cases h5 : m = 1
            · by_cases h6 : x ≥ -2147483648
              · by_cases h7 : x ≤ 2147483647
                · by_cases h8 : y ≥ -2147483648
                  · by_cases h9 : y ≤ 2147483647
                    · have b0 : decide (k < 0) = false := by simpa using h0
                      have b1 : decide (k > 6) = false := by simpa using h1
                      have b2 : decide (m < 0) = false := by simpa using h2
                      have b3 : decide (m > 2) = false := by simpa using h3
                      have b4 : decide (k > 0) = false := by simpa using h4
                      have b5 : (m == 1) = true := by simpa using h5
                      have b6 : decide (x ≥ -2147483648) = true := by simpa using h6
                      have b7 : decide (x ≤ 2147483647) = true := by simpa using h7
                      have b8 : decide (y ≥ -2147483648) = true := by simpa using h8
                      have b9 : decide (y ≤ 2147483647) = true := by simpa using h9
                      have HE : Hid (mayB k m x y = true) := by show _ = _; unfold mayB; simp; omega
                      clear h0 h1 h2 h3 h4 h5 h6 h7 h8 h9
                      go_enter Try.func7, Try.ntmps7
                      go_wp2
                      go_ret
                      exact ⟨ret_bool' HE.out.symm, below_alloc w _⟩
                    · have b0 : decide (k < 0) = false := by simpa using h0
                      have b1 : decide (k > 6) = false := by simpa using h1
                      have b2 : decide (m < 0) = false := by simpa using h2
                      have b3 : decide (m > 2) = false := by simpa using h3
                      have b4 : decide (k > 0) = false := by simpa using h4
                      have b5 : (m == 1) = true := by simpa using h5
                      have b6 : decide (x ≥ -2147483648) = true := by simpa using h6
                      have b7 : decide (x ≤ 2147483647) = true := by simpa using h7
                      have b8 : decide (y ≥ -2147483648) = true := by simpa using h8
                      have b9 : decide (y ≤ 2147483647) = false := by simpa using h9
                      have HE : Hid (mayB k m x y = false) := by show _ = _; unfold mayB; simp; omega
                      clear h0 h1 h2 h3 h4 h5 h6 h7 h8 h9
                      go_enter Try.func7, Try.ntmps7
                      go_wp2
                      go_ret
                      exact ⟨ret_bool' HE.out.symm, below_alloc w _⟩
                  · have b0 : decide (k < 0) = false := by simpa using h0
                    have b1 : decide (k > 6) = false := by simpa using h1
                    have b2 : decide (m < 0) = false := by simpa using h2
                    have b3 : decide (m > 2) = false := by simpa using h3
                    have b4 : decide (k > 0) = false := by simpa using h4
                    have b5 : (m == 1) = true := by simpa using h5
                    have b6 : decide (x ≥ -2147483648) = true := by simpa using h6
                    have b7 : decide (x ≤ 2147483647) = true := by simpa using h7
                    have b8 : decide (y ≥ -2147483648) = false := by simpa using h8
                    have HE : Hid (mayB k m x y = false) := by show _ = _; unfold mayB; simp; omega
                    clear h0 h1 h2 h3 h4 h5 h6 h7 h8
                    go_enter Try.func7, Try.ntmps7
                    go_wp2
                    go_ret
                    exact ⟨ret_bool' HE.out.symm, below_alloc w _⟩
                · have b0 : decide (k < 0) = false := by simpa using h0
                  have b1 : decide (k > 6) = false := by simpa using h1
                  have b2 : decide (m < 0) = false := by simpa using h2
                  have b3 : decide (m > 2) = false := by simpa using h3
                  have b4 : decide (k > 0) = false := by simpa using h4
                  have b5 : (m == 1) = true := by simpa using h5
                  have b6 : decide (x ≥ -2147483648) = true := by simpa using h6
                  have b7 : decide (x ≤ 2147483647) = false := by simpa using h7
                  have HE : Hid (mayB k m x y = false) := by show _ = _; unfold mayB; simp; omega
                  clear h0 h1 h2 h3 h4 h5 h6 h7
                  go_enter Try.func7, Try.ntmps7
                  go_wp2
                  go_ret
                  exact ⟨ret_bool' HE.out.symm, below_alloc w _⟩
              · have b0 : decide (k < 0) = false := by simpa using h0
                have b1 : decide (k > 6) = false := by simpa using h1
                have b2 : decide (m < 0) = false := by simpa using h2
                have b3 : decide (m > 2) = false := by simpa using h3
                have b4 : decide (k > 0) = false := by simpa using h4
                have b5 : (m == 1) = true := by simpa using h5
                have b6 : decide (x ≥ -2147483648) = false := by simpa using h6
                have HE : Hid (mayB k m x y = false) := by show _ = _; unfold mayB; simp; omega
                clear h0 h1 h2 h3 h4 h5 h6
                go_enter Try.func7, Try.ntmps7
                go_wp2
                go_ret
                exact ⟨ret_bool' HE.out.symm, below_alloc w _⟩
            · by_cases h6 : x = 0
              · by_cases h7 : y = 0
                · have b0 : decide (k < 0) = false := by simpa using h0
                  have b1 : decide (k > 6) = false := by simpa using h1
                  have b2 : decide (m < 0) = false := by simpa using h2
                  have b3 : decide (m > 2) = false := by simpa using h3
                  have b4 : decide (k > 0) = false := by simpa using h4
                  have b5 : (m == 1) = false := by simpa using h5
                  have b6 : (x == 0) = true := by simpa using h6
                  have b7 : (y == 0) = true := by simpa using h7
                  have HE : Hid (mayB k m x y = true) := by show _ = _; unfold mayB; simp; omega
                  clear h0 h1 h2 h3 h4 h5 h6 h7
                  go_enter Try.func7, Try.ntmps7
                  go_wp2
                  go_ret
                  exact ⟨ret_bool' HE.out.symm, below_alloc w _⟩
                · have b0 : decide (k < 0) = false := by simpa using h0
                  have b1 : decide (k > 6) = false := by simpa using h1
                  have b2 : decide (m < 0) = false := by simpa using h2
                  have b3 : decide (m > 2) = false := by simpa using h3
                  have b4 : decide (k > 0) = false := by simpa using h4
                  have b5 : (m == 1) = false := by simpa using h5
                  have b6 : (x == 0) = true := by simpa using h6
                  have b7 : (y == 0) = false := by simpa using h7
                  have HE : Hid (mayB k m x y = false) := by show _ = _; unfold mayB; simp; omega
                  clear h0 h1 h2 h3 h4 h5 h6 h7
                  go_enter Try.func7, Try.ntmps7
                  go_wp2
                  go_ret
                  exact ⟨ret_bool' HE.out.symm, below_alloc w _⟩
              · have b0 : decide (k < 0) = false := by simpa using h0
                have b1 : decide (k > 6) = false := by simpa using h1
                have b2 : decide (m < 0) = false := by simpa using h2
                have b3 : decide (m > 2) = false := by simpa using h3
                have b4 : decide (k > 0) = false := by simpa using h4
                have b5 : (m == 1) = false := by simpa using h5
                have b6 : (x == 0) = false := by simpa using h6
                have HE : Hid (mayB k m x y = false) := by show _ = _; unfold mayB; simp; omega
                clear h0 h1 h2 h3 h4 h5 h6
                go_enter Try.func7, Try.ntmps7
                go_wp2
                go_ret
                exact ⟨ret_bool' HE.out.symm, below_alloc w _⟩
theorem row_lit {base : Nat} (w : World) (cs : Array Value) (n b : Nat) (L : List ByteArray) (hb : w.heap.size = b) (hB : base ≤ b) (hm : n ≤ maxLen) (hs : cs.size = n * 1) (hL : cs.toList = sv L) (hn : L.length = n) :
    (w.alloc (.cells cs 9)).ownsRow base 9 1 (.slice (some ⟨b, 0, none⟩) n n) L.length (sv L) := by
  subst hb
  rw [hn, ← hL]
  exact World.ownsRow_lit w cs n hB hm hs
set_option maxHeartbeats 2000000 in
set_option maxRecDepth 100000 in
theorem ofKind_any (k m x y : Int) (w : World) : Calls Try.prog 20 #[.agg #[.int .i64 k, .int .i64 m, .int .i64 x, .int .i64 y]] w fun e w' => ∃ v, e = .returned v ∧ w'.ownsRow w.heap.size 9 1 v (kindM k).length (sv (kindM k)) ∧ Below w.heap.size w w' := by
  by_cases h1 : k = 1
  · have b1 : (k == 1) = true := by simpa using h1
    have HE : Hid (kindM k = [tWait]) := by show _ = _; rw [h1]; exact kindM1
    clear h1
    go_enter Try.func20, Try.ntmps20
    go_wp2
    go_ret
    exact ⟨.slice (some ⟨w.heap.size + 1, 0, none⟩) 1 1, rfl, by rw [HE.out]; exact row_lit (w.alloc _) #[.string ⟨#[116, 45, 119, 97, 105, 116]⟩] 1 _ [tWait] (by simp) (by omega) (by unfold maxLen; omega) rfl rfl rfl, (below_alloc w _).alloc (by simp) _⟩
  · have b1 : (k == 1) = false := by simpa using h1
    by_cases h2 : k = 2
    · have b2 : (k == 2) = true := by simpa using h2
      have HE : Hid (kindM k = [tEF, tEA]) := by show _ = _; rw [h2]; exact kindM2
      clear h1 h2
      go_enter Try.func20, Try.ntmps20
      go_wp2
      go_ret
      exact ⟨.slice (some ⟨w.heap.size + 1, 0, none⟩) 2 2, rfl, by rw [HE.out]; exact row_lit (w.alloc _) #[.string ⟨#[116, 45, 101, 110, 116, 101, 114, 45, 102, 114, 111, 109]⟩, .string ⟨#[116, 45, 101, 110, 116, 101, 114, 45, 97, 99, 116, 105, 118, 101]⟩] 2 _ [tEF, tEA] (by simp) (by omega) (by unfold maxLen; omega) rfl rfl rfl, (below_alloc w _).alloc (by simp) _⟩
    · have b2 : (k == 2) = false := by simpa using h2
      by_cases h3 : k = 3
      · have b3 : (k == 3) = true := by simpa using h3
        have HE : Hid (kindM k = [tEA, tET]) := by show _ = _; rw [h3]; exact kindM3
        clear h1 h2 h3
        go_enter Try.func20, Try.ntmps20
        go_wp2
        go_ret
        exact ⟨.slice (some ⟨w.heap.size + 1, 0, none⟩) 2 2, rfl, by rw [HE.out]; exact row_lit (w.alloc _) #[.string ⟨#[116, 45, 101, 110, 116, 101, 114, 45, 97, 99, 116, 105, 118, 101]⟩, .string ⟨#[116, 45, 101, 110, 116, 101, 114, 45, 116, 111]⟩] 2 _ [tEA, tET] (by simp) (by omega) (by unfold maxLen; omega) rfl rfl rfl, (below_alloc w _).alloc (by simp) _⟩
      · have b3 : (k == 3) = false := by simpa using h3
        by_cases h4 : k = 4
        · have b4 : (k == 4) = true := by simpa using h4
          have HE : Hid (kindM k = [tHold]) := by show _ = _; rw [h4]; exact kindM4
          clear h1 h2 h3 h4
          go_enter Try.func20, Try.ntmps20
          go_wp2
          go_ret
          exact ⟨.slice (some ⟨w.heap.size + 1, 0, none⟩) 1 1, rfl, by rw [HE.out]; exact row_lit (w.alloc _) #[.string ⟨#[116, 45, 104, 111, 108, 100]⟩] 1 _ [tHold] (by simp) (by omega) (by unfold maxLen; omega) rfl rfl rfl, (below_alloc w _).alloc (by simp) _⟩
        · have b4 : (k == 4) = false := by simpa using h4
          by_cases h5 : k = 5
          · have b5 : (k == 5) = true := by simpa using h5
            have HE : Hid (kindM k = [tLF, tLA]) := by show _ = _; rw [h5]; exact kindM5
            clear h1 h2 h3 h4 h5
            go_enter Try.func20, Try.ntmps20
            go_wp2
            go_ret
            exact ⟨.slice (some ⟨w.heap.size + 1, 0, none⟩) 2 2, rfl, by rw [HE.out]; exact row_lit (w.alloc _) #[.string ⟨#[116, 45, 108, 101, 97, 118, 101, 45, 102, 114, 111, 109]⟩, .string ⟨#[116, 45, 108, 101, 97, 118, 101, 45, 97, 99, 116, 105, 118, 101]⟩] 2 _ [tLF, tLA] (by simp) (by omega) (by unfold maxLen; omega) rfl rfl rfl, (below_alloc w _).alloc (by simp) _⟩
          · have b5 : (k == 5) = false := by simpa using h5
            by_cases h6 : k = 6
            · have b6 : (k == 6) = true := by simpa using h6
              have HE : Hid (kindM k = [tLA, tLT]) := by show _ = _; rw [h6]; exact kindM6
              clear h1 h2 h3 h4 h5 h6
              go_enter Try.func20, Try.ntmps20
              go_wp2
              go_ret
              exact ⟨.slice (some ⟨w.heap.size + 1, 0, none⟩) 2 2, rfl, by rw [HE.out]; exact row_lit (w.alloc _) #[.string ⟨#[116, 45, 108, 101, 97, 118, 101, 45, 97, 99, 116, 105, 118, 101]⟩, .string ⟨#[116, 45, 108, 101, 97, 118, 101, 45, 116, 111]⟩] 2 _ [tLA, tLT] (by simp) (by omega) (by unfold maxLen; omega) rfl rfl rfl, (below_alloc w _).alloc (by simp) _⟩
            · have b6 : (k == 6) = false := by simpa using h6
              have HE : Hid (kindM k = []) := kindM_no (by omega)
              clear h1 h2 h3 h4 h5 h6
              go_enter Try.func20, Try.ntmps20
              go_wp2
              go_ret
              exact ⟨_, rfl, by rw [HE.out]; exact World.ownsRow_nil _ _ _ _, below_alloc w _⟩
theorem infoStr2 : (Try.prog.info? 9).map (fun i => (i.zero, i.size, i.bytes)) = some (some (.string { data := #[] }), 1, 16) := by kernel_rfl
theorem info_parts {P : Program} {t : TypeId} {z : Value} {a b : Nat} (h : (P.info? t).map (fun i => (i.zero, i.size, i.bytes)) = some (some z, a, b)) : ∃ i, P.info? t = some i ∧ i.zero = some z ∧ i.size = a ∧ i.bytes = b := by
  cases hi : P.info? t with
  | none => rw [hi] at h; cases h
  | some i =>
    rw [hi] at h
    injection h with h
    injection h with h1 h2
    injection h2 with h2 h3
    exact ⟨i, rfl, h1, h2, h3⟩
theorem kindM_len (k : Int) : (kindM k).length ≤ 2 := by
  unfold kindM
  repeat' split
  all_goals simp
set_option maxHeartbeats 2000000 in
set_option maxRecDepth 100000 in
theorem classes_any (k m x y : Int) (w : World) : Calls Try.prog 13 #[.agg #[.int .i64 k, .int .i64 m, .int .i64 x, .int .i64 y]] w fun e w' => ∃ v, e = .returned v ∧ w'.ownsRow w.heap.size 9 1 v (marks k m).length (sv (marks k m)) ∧ Below w.heap.size w w' := by
  have CK := Lib.hid (fun W => ofKind_any k m x y W)
  have hkl := kindM_len k
  obtain ⟨i0, hi, hz0, hz1, hz2⟩ := info_parts infoStr2
  generalize hK : kindM k = KK at CK hkl
  have HKK := Lib.hid hK
  clear hK
  by_cases hm : m = 0
  · have bm : (m != 0) = false := by simp [hm]
    have bm' : (m == 0) = true := by simpa using hm
    have HE : Hid (marks k m = KK) := by show _ = _; unfold marks; rw [if_pos hm, HKK.out, List.append_nil]
    clear hm
    go_enter Try.func13, Try.ntmps13
    go_wp2_with fail
    (with_reducible refine (CK.out _).mono ?_)
    rintro e w1 ⟨v, rfl, ho, hb⟩
    have m1 : w1.cell? ⟨w.heap.size, 1, none⟩ = some (.int .i64 m) := (hb.cell (p := ⟨w.heap.size, 1, none⟩) (by simp)).trans (by simp)
    have HO := Lib.hid ho
    have HB := Lib.hid hb
    clear ho hb CK
    go_wp2
    go_ret
    exact ⟨v, rfl, by rw [HE.out]; exact own_mono HO.out (by simp), (below_alloc w _).trans (HB.out.mono (by simp))⟩
  · have bm : (m != 0) = true := by simp [hm]
    have bm' : (m == 0) = false := by simpa using hm
    have HE : Hid (marks k m = KK ++ [tMv]) := by show _ = _; unfold marks; rw [if_neg hm, HKK.out]
    clear hm
    go_enter Try.func13, Try.ntmps13
    go_wp2_with fail
    (with_reducible refine (CK.out _).mono ?_)
    rintro e w1 ⟨v, rfl, ho, hb⟩
    have m1 : w1.cell? ⟨w.heap.size, 1, none⟩ = some (.int .i64 m) := (hb.cell (p := ⟨w.heap.size, 1, none⟩) (by simp)).trans (by simp)
    have HO := Lib.hid (own_below (own_mono ho (show w.heap.size ≤ _ by simp)) (below_alloc w1 (.cells #[.string ⟨#[116, 45, 109, 111, 118, 101]⟩] 9)))
    have HOL := Lib.hid (own_from (own_mono ho (show w.heap.size ≤ _ by simp)))
    have hsz := hb.size
    have HB := Lib.hid ((below_alloc w _).trans (hb.mono (by simp)))
    have hs2 := HB.out.size
    clear ho hb CK
    go_wp2_with (at_builtin; refine wpList_append_at rfl _ _ 28 rfl w.heap.size 9 i0 (.string { data := #[] }) 1 16 Try.underlying28 hi hz0 hz1 hz2 rfl (by decide) _ _ _ rfl HO.out (some ⟨_, 0, none⟩) 1 1 (sv [tMv]) rfl (fun h => nomatch h) rfl (at_new _ #[.string ⟨#[116, 45, 109, 111, 118, 101]⟩] 9 _ rfl _ rfl) (sv_one _) (by unfold maxLen; omega) (by omega) (by simp; omega) ?_; intro v3 w3 hown3 hgrow3; have HO3 := Lib.hid hown3; have HG3 := Lib.hid hgrow3; clear hown3 hgrow3)
    go_ret
    refine ⟨v3, rfl, ?_, ?_⟩
    · rw [HE.out, List.length_append, sv_app]
      exact HO3.out
    · exact (HB.out.alloc hs2 _).grown HG3.out (by simp; omega) (fun q hq => HOL.out q hq)
end Ds
end Go.Proofs.Ytcboeehmhpkodaa
