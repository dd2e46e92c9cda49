/- The walk of RectOffsets. -/
import Derived.Test.YtjpdnnjijcmioaaRcW4
import Derived.LoopNIn
import Derived.WalkKit
namespace Go.Proofs.Ytjpdnnjijcmioaa
open Go.RowKit M
def inB (n : Int) : Prop := -1000000000 ≤ n ∧ n ≤ 1000000000
theorem back_to (a x : Int) (h1 : inB a) (h2 : inB x) : ad x (sb a x) = a := by
  unfold inB at h1 h2
  unfold ad sb st
  omega
set_option maxHeartbeats 4000000 in
set_option maxRecDepth 100000 in
theorem rectOffsets_any (w : World) (a b c d x y v h : Int) :
    Calls Try.prog 5 #[.agg #[.int .i64 a, .int .i64 b, .int .i64 c, .int .i64 d], .agg #[.int .i64 x, .int .i64 y, .int .i64 v, .int .i64 h]] w fun e w' => e = .returned (.bool true) ∧ Below w.heap.size w w' := by
  go_enter Try.func5, Try.ntmps5
  go_wp2_with fail
  obtain ⟨W1, e1, s1, b1, f10, f11, f12, f13, _, _, _, _⟩ := rect_laid w a b c d 23
  rw [e1]
  obtain ⟨W2, e2, s2, b2, f24, f25, f26, f27, _, _, _, _⟩ := rect_laid W1 x y v h 23
  rw [e2]
  rw [s1] at f24 f25 f26 f27
  have HB2 : Hid (Below w.heap.size w W2) := below_join b1 b2
  have l0 : w.heap.size < W1.heap.size := by omega
  have l1 : w.heap.size < W2.heap.size := by omega
  have l2 : w.heap.size + 1 < W2.heap.size := by omega
  have f20 := (b2.cell (p := ⟨w.heap.size, 0, none⟩) l0).trans f10
  have f21 := (b2.cell (p := ⟨w.heap.size, 1, none⟩) l0).trans f11
  have f22 := (b2.cell (p := ⟨w.heap.size, 2, none⟩) l0).trans f12
  have f23 := (b2.cell (p := ⟨w.heap.size, 3, none⟩) l0).trans f13
  clear e1 e2 b1 b2 s1 s2 f10 f11 f12 f13 l0
  refine (awake13_any _).mono ?_
  rintro e9 W ⟨rfl, hb⟩
  have f0 := (hb.cell (p := ⟨w.heap.size, 0, none⟩) l1).trans f20
  have f1 := (hb.cell (p := ⟨w.heap.size, 1, none⟩) l1).trans f21
  have f2 := (hb.cell (p := ⟨w.heap.size, 2, none⟩) l1).trans f22
  have f3 := (hb.cell (p := ⟨w.heap.size, 3, none⟩) l1).trans f23
  have f4 := (hb.cell (p := ⟨w.heap.size + 1, 0, none⟩) l2).trans f24
  have f5 := (hb.cell (p := ⟨w.heap.size + 1, 1, none⟩) l2).trans f25
  have f6 := (hb.cell (p := ⟨w.heap.size + 1, 2, none⟩) l2).trans f26
  have f7 := (hb.cell (p := ⟨w.heap.size + 1, 3, none⟩) l2).trans f27
  have HB : Hid (Below w.heap.size w W) := below_join HB2.out hb
  have k0 : w.heap.size < W.heap.size := Nat.lt_of_lt_of_le l1 hb.size
  have k1 : w.heap.size + 1 < W.heap.size := Nat.lt_of_lt_of_le l2 hb.size
  clear hb f20 f21 f22 f23 f24 f25 f26 f27 l1 l2 HB2
  go_wp2_with fail
  generalize hgg : w.heap.size = g at f0 f1 f2 f3 f4 f5 f6 f7 k0 k1 ⊢
  have HG := Lib.hid hgg
  clear hgg
  go_at_call 21
  refine (offset_any a b c d x y v h W).mono ?_
  rintro e9 V ⟨rfl, hb⟩
  have h0 := (hb.cell (p := ⟨g, 0, none⟩) k0).trans f0
  have h1 := (hb.cell (p := ⟨g, 1, none⟩) k0).trans f1
  have h2 := (hb.cell (p := ⟨g, 2, none⟩) k0).trans f2
  have h3 := (hb.cell (p := ⟨g, 3, none⟩) k0).trans f3
  have h4 := (hb.cell (p := ⟨g + 1, 0, none⟩) k1).trans f4
  have h5 := (hb.cell (p := ⟨g + 1, 1, none⟩) k1).trans f5
  have h6 := (hb.cell (p := ⟨g + 1, 2, none⟩) k1).trans f6
  have h7 := (hb.cell (p := ⟨g + 1, 3, none⟩) k1).trans f7
  have HV : Hid (Below w.heap.size w V) := below_join HB.out hb
  have j0 : g < V.heap.size := Nat.lt_of_lt_of_le k0 hb.size
  have j1 : g + 1 < V.heap.size := Nat.lt_of_lt_of_le k1 hb.size
  clear hb f0 f1 f2 f3 f4 f5 f6 f7 k0 k1 HB
  go_wp2_with (go_at_call 22; refine (rsub_any' _ _ _).mono ?_; rintro e9 w9 ⟨rfl, rfl⟩)
  have hn : ∀ k : Nat, k < 4 → (V.alloc (.cells #[.int .i64 a, .int .i64 b, .int .i64 x, .int .i64 y] 3)).cell? ⟨V.heap.size, k, none⟩ = some (.int .i64 ([a, b, x, y].getD k 0)) := by
    intro k hk
    match k, hk with
    | 0, _ => simp
    | 1, _ => simp
    | 2, _ => simp
    | 3, _ => simp
  have q0 := Lib.cell?_alloc_some (.cells #[.int .i64 a, .int .i64 b, .int .i64 x, .int .i64 y] 3) h0
  have q1 := Lib.cell?_alloc_some (.cells #[.int .i64 a, .int .i64 b, .int .i64 x, .int .i64 y] 3) h1
  have q4 := Lib.cell?_alloc_some (.cells #[.int .i64 a, .int .i64 b, .int .i64 x, .int .i64 y] 3) h4
  have q5 := Lib.cell?_alloc_some (.cells #[.int .i64 a, .int .i64 b, .int .i64 x, .int .i64 y] 3) h5
  have q6 := Lib.cell?_alloc_some (.cells #[.int .i64 a, .int .i64 b, .int .i64 x, .int .i64 y] 3) h6
  have q7 := Lib.cell?_alloc_some (.cells #[.int .i64 a, .int .i64 b, .int .i64 x, .int .i64 y] 3) h7
  have hb6 : Below w.heap.size w (V.alloc (.cells #[.int .i64 a, .int .i64 b, .int .i64 x, .int .i64 y] 3)) := HV.out.alloc HV.out.size _
  have u0 : g < (V.alloc (.cells #[.int .i64 a, .int .i64 b, .int .i64 x, .int .i64 y] 3)).heap.size := by rw [size_alloc]; omega
  have u1 : g + 1 < (V.alloc (.cells #[.int .i64 a, .int .i64 b, .int .i64 x, .int .i64 y] 3)).heap.size := by rw [size_alloc]; omega
  have HN := Lib.hid hn
  have HB6 := Lib.hid hb6
  clear hn hb6 h0 h1 h2 h3 h4 h5 h6 h7 j0 j1 HV
  generalize V.alloc (.cells #[.int .i64 a, .int .i64 b, .int .i64 x, .int .i64 y] 3) = U at *
  generalize V.heap.size = m at *
  go_loop [44] (fun i => ∃ k : Nat, k ≤ 4 ∧ i = .int .i64 k ∧ Hid (∀ j, j < k → inB ([a, b, x, y].getD j 0))) (fun i => 4 - (intOf i).toNat)
  case atStart => exact ⟨0, by omega, rfl, fun j hj => absurd hj (Nat.not_lt_zero _)⟩
  case round =>
    obtain ⟨k, hk, rfl, hall⟩ := hrel
    by_cases hlt : k < 4
    · have hc := HN.out k hlt
      obtain ⟨z, hz⟩ : ∃ z, z = [a, b, x, y].getD k 0 := ⟨_, rfl⟩
      rw [← hz] at hc
      have HZ := Lib.hid hz
      clear hz q0 q1 q4 q5 q6 q7
      by_cases hz1 : z < -1000000000
      · go_wp2
        go_ret
        exact ⟨rfl, HB6.out⟩
      · by_cases hz2 : z > 1000000000
        · go_wp2
          go_ret
          exact ⟨rfl, HB6.out⟩
        · have H1 : Hid (inB z) := ⟨by omega, by omega⟩
          go_wp2
          go_round
          case rel =>
            refine ⟨k + 1, by omega, by go_num, fun j hj => ?_⟩
            rcases Nat.lt_or_ge j k with h9 | h9
            · exact hall.out j h9
            · have e9 : j = k := by omega
              subst e9
              rw [← HZ.out]
              exact H1.out
          case measure => simp [intOf]; omega
    · obtain rfl : k = 4 := by omega
      have E1 := back_to a x (hall.out 0 (by omega)) (hall.out 2 (by omega))
      have E2 := back_to b y (hall.out 1 (by omega)) (hall.out 3 (by omega))
      have CA := at_any x y v h (sb a x) (sb b y)
      rw [E1, E2] at CA
      clear E1 E2
      have CB := fun W => Lib.hid (CA W)
      clear CA
      go_wp2_with (go_at_call 13; refine (CB _).out.mono ?_; rintro e9 X ⟨rfl, hbx⟩; have x0 := (hbx.cell (p := ⟨g, 0, none⟩) u0).trans q0; have x1 := (hbx.cell (p := ⟨g, 1, none⟩) u0).trans q1; have x4 := (hbx.cell (p := ⟨g + 1, 0, none⟩) u1).trans q4; have x5 := (hbx.cell (p := ⟨g + 1, 1, none⟩) u1).trans q5; have x6 := (hbx.cell (p := ⟨g + 1, 2, none⟩) u1).trans q6; have x7 := (hbx.cell (p := ⟨g + 1, 3, none⟩) u1).trans q7; have y0 := Lib.cell?_alloc_some (.cells #[.int .i64 a, .int .i64 b, .int .i64 v, .int .i64 h] 25) x0; have y1 := Lib.cell?_alloc_some (.cells #[.int .i64 a, .int .i64 b, .int .i64 v, .int .i64 h] 25) x1; have y4 := Lib.cell?_alloc_some (.cells #[.int .i64 a, .int .i64 b, .int .i64 v, .int .i64 h] 25) x4; have y5 := Lib.cell?_alloc_some (.cells #[.int .i64 a, .int .i64 b, .int .i64 v, .int .i64 h] 25) x5; have y6 := Lib.cell?_alloc_some (.cells #[.int .i64 a, .int .i64 b, .int .i64 v, .int .i64 h] 25) x6; have y7 := Lib.cell?_alloc_some (.cells #[.int .i64 a, .int .i64 b, .int .i64 v, .int .i64 h] 25) x7)
      go_ret
      exact ⟨rfl, (below_join HB6.out hbx).alloc (below_join HB6.out hbx).size _⟩
end Go.Proofs.Ytjpdnnjijcmioaa
