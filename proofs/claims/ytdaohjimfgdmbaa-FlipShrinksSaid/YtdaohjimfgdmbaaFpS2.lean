/- The walk of FlipShrinks. -/
import Derived.Test.YtdaohjimfgdmbaaFpS
import Derived.WalkArith
namespace Go.Proofs.Ytdaohjimfgdmbaa
open Go.RowKit Go.Maps Sn M
set_option maxHeartbeats 16000000 in
set_option maxRecDepth 100000 in
theorem flipShrinks_any (w : World) (v0 v1 : Value) (h0 : IntArg w v0) (h1 : IntArg w v1) :
    Calls Try.prog 9 #[v0, v1] w fun e w' => e = .returned (.bool true) ∧ Below w.heap.size w w' := by
  obtain ⟨a, rfl, _⟩ := h0
  obtain ⟨b, rfl, _⟩ := h1
  obtain ⟨d, hd⟩ : ∃ d, d = max (-2000000) (min a 2000000) := ⟨_, rfl⟩
  have hd1 : -2000000 ≤ d := by omega
  have hd2 : d ≤ 2000000 := by omega
  obtain ⟨D1, hD1⟩ : ∃ m : Nat, (m : Int) = b % 512 := ⟨(b % 512).toNat, by omega⟩
  obtain ⟨D, hD⟩ : ∃ m : Nat, m = 1 + D1 := ⟨_, rfl⟩
  have hD512 : D ≤ 512 := by omega
  have hD0 : 0 < D := by omega
  have e1 : max (-2000000) (min a 2000000) = d := hd.symm
  have e2 : bits .and .i64 b 511 = (D1 : Int) := by rw [i64_and511, hD1]
  have e3 : (1 : Int) + (D1 : Int) = (D : Int) := by omega
  have e4 : IntKind.i64.wrap (1 + (D1 : Int)) = (D : Int) := by rw [IntKind.wrap_i64]; omega
  have e5 : IntKind.i64.wrap (-d) = -d := by rw [IntKind.wrap_i64]; omega
  have CL := Lib.hid (fun W (k : Nat) (hk : k ≤ D) (hw : OkI (k : Int)) (hw2 : OkI (D : Int)) => left_any 1 d (-d) (k : Int) (D : Int) W hw hw2)
  have HD := Lib.hid hD
  clear hd hD1 hD
  go_enter Try.func9, Try.ntmps9
  go_wp2_with fail
  refine (awake23_any _).mono ?_
  rintro e w1 ⟨rfl, hb1⟩
  have HB1 := Lib.hid hb1
  obtain ⟨W0, hW0⟩ : ∃ W, W = (w1.alloc (.cells #[.int .i64 1, .int .i64 d, .int .i64 (-d)] 59)).alloc (.cells #[.int .i64 1, .int .i64 d, .int .i64 (-d)] 59) := ⟨_, rfl⟩
  obtain ⟨g, hg⟩ : ∃ g, g = w1.heap.size := ⟨_, rfl⟩
  have K1 := Lib.hid (show Blk W0 g 59 #[.int .i64 1, .int .i64 d, .int .i64 (-d)] by rw [hW0, hg]; exact (Blk.new w1 _ _).alloc _)
  have K2 := Lib.hid (show Blk W0 (g + 1) 59 #[.int .i64 1, .int .i64 (lf d D 0), .int .i64 (lf (-d) D 0)] by rw [hW0, hg, lf_zero _ _ hD0, lf_zero _ _ hD0]; exact Blk.new' _ _ _ _ (by simp))
  have HB0 := Lib.hid (show Below w.heap.size w W0 by rw [hW0]; exact (hb1.alloc hb1.size _).alloc (by have := hb1.size; simp; omega) _)
  have HGW := Lib.hid (show w.heap.size ≤ g by rw [hg]; exact hb1.size)
  have HW0 := Lib.hid hW0
  have HG := Lib.hid hg
  clear hb1 hW0 hg
  go_upto_region 7 with fail
  rw [← HW0.out, ← HG.out]
  clear e1 e2 e3 e4 e5
  go_wp2_with fail
  go_loopw [7] (fun i wr => ∃ k : Nat, k ≤ D + 1 ∧ i = .int .i64 k ∧ Hid (Blk wr g 59 #[.int .i64 1, .int .i64 d, .int .i64 (-d)]) ∧ Hid (Blk wr (g + 1) 59 #[.int .i64 1, .int .i64 (lf d D (k - 1)), .int .i64 (lf (-d) D (k - 1))]) ∧ Hid (Below w.heap.size w wr)) (fun i _ => D + 1 - (intOf i).toNat)
  case atStart => exact ⟨0, Nat.zero_le _, rfl, K1, K2, HB0⟩
  case round =>
    obtain ⟨k, hk, rfl, hk1, hk2, hbel⟩ := hrel
    by_cases hlt : k ≤ D
    · have hs0 := hk1.out.cell 0 (v := .int .i64 1) rfl
      have hs1 := hk1.out.cell 1 (v := .int .i64 d) rfl
      have hs2 := hk1.out.cell 2 (v := .int .i64 (-d)) rfl
      have C := CL.out wr k hlt (WalkArith.wf_i64 ⟨by omega, by omega⟩) (WalkArith.wf_i64 ⟨by omega, by omega⟩)
      rw [left_lf d D k hd1 hd2 hlt hD512 hD0] at C
      have hst1 := lf_step d D k hD0
      have hst2 := lf_step (-d) D k hD0
      have hsg := lf_sign d D k hD0
      have hz1 := Lib.hid (fun (h : k = 0) => show lf d D k = d by rw [h]; exact lf_zero _ _ hD0)
      have hz2 := Lib.hid (fun (h : k = 0) => show lf (-d) D k = -d by rw [h]; exact lf_zero _ _ hD0)
      have x1 := lf_bd d D k hd1 hd2 hD512 hD0
      have x2 := lf_bd (-d) D k (by omega) (by omega) hD512 hD0
      have x3 := lf_bd d D (k - 1) hd1 hd2 hD512 hD0
      have x4 := lf_bd (-d) D (k - 1) (by omega) (by omega) hD512 hD0
      have HK1 := Lib.hid (show k + 1 - 1 = k by omega)
      obtain ⟨X, hX⟩ : ∃ X, X = lf d D k := ⟨_, rfl⟩
      obtain ⟨Y, hY⟩ : ∃ Y, Y = lf (-d) D k := ⟨_, rfl⟩
      obtain ⟨X', hX'⟩ : ∃ X, X = lf d D (k - 1) := ⟨_, rfl⟩
      obtain ⟨Y', hY'⟩ : ∃ Y, Y = lf (-d) D (k - 1) := ⟨_, rfl⟩
      rw [← hX] at C hst1 hsg hz1 x1
      rw [← hY] at C hst2 hz2 x2
      rw [← hX'] at hst1 x3 hk2
      rw [← hY'] at hst2 x4 hk2
      have HC := Lib.hid C
      have HX := Lib.hid hX
      have HY := Lib.hid hY
      clear C hX hY hX' hY'
      have F1 := Lib.hid (fun W => far_any X W x1.1 x1.2)
      have F2 := Lib.hid (fun W => far_any Y W x2.1 x2.2)
      have F3 := Lib.hid (fun W => far_any X' W x3.1 x3.2)
      have F4 := Lib.hid (fun W => far_any Y' W x4.1 x4.2)
      have a3 : 0 ≤ ab X' ∧ ab X' ≤ 1024000000 := by unfold ab; split <;> omega
      have a4 : 0 ≤ ab Y' ∧ ab Y' ≤ 1024000000 := by unfold ab; split <;> omega
      have b1 : decide (ab X' + 1 < ab X) = false := decide_eq_false (by omega)
      have b2 : decide (ab Y' + 1 < ab Y) = false := decide_eq_false (by omega)
      have w3 : IntKind.i64.wrap (ab X' + 1) = ab X' + 1 := by rw [IntKind.wrap_i64]; omega
      have w4 : IntKind.i64.wrap (ab Y' + 1) = ab Y' + 1 := by rw [IntKind.wrap_i64]; omega
      generalize ab X = fX at *
      generalize ab Y = fY at *
      generalize ab X' = fX' at *
      generalize ab Y' = fY' at *
      obtain ⟨a31, a32⟩ := a3
      obtain ⟨a41, a42⟩ := a4
      clear hst1 hst2 x1 x2 x3 x4
      have hkD : (k : Int) ≤ (D : Int) := by omega
      go_wp2_with fail
      refine HC.out.mono ?_
      rintro e w5 ⟨rfl, hb5⟩
      obtain ⟨W6, hW6⟩ : ∃ W, W = w5.alloc (.cells #[.int .i64 1, .int .i64 X, .int .i64 Y] 59) := ⟨_, rfl⟩
      have hb6 : Below wr.heap.size wr W6 := by rw [hW6]; exact hb5.alloc hb5.size _
      have L1 := Lib.hid (hk1.out.below hb6)
      have L2 := Lib.hid (hk2.out.below hb6)
      obtain ⟨g3, hg3⟩ : ∃ g, g = w5.heap.size := ⟨_, rfl⟩
      have L3 := Lib.hid (show Blk W6 g3 59 #[.int .i64 1, .int .i64 X, .int .i64 Y] by rw [hW6, hg3]; exact Blk.new w5 _ _)
      have HB6 := Lib.hid (hbel.out.trans (hb6.mono hbel.out.size))
      have HW6 := Lib.hid hW6
      have HG3 := Lib.hid hg3
      have HN3 := Lib.hid (show ¬ g3 = g + 1 by have := hk2.out.lt; have := hb5.size; omega)
      clear hW6 hg3 hb5 hb6 hs0 hs1 hs2 HC hk1 hk2 hbel
      go_upto_region 11 with fail
      rw [← HW6.out, ← HG3.out]
      have p0 := L1.out.cell 0 (v := .int .i64 1) rfl
      have p1 := L1.out.cell 1 (v := .int .i64 d) rfl
      have p2 := L1.out.cell 2 (v := .int .i64 (-d)) rfl
      have q0 := L2.out.cell 0 (v := .int .i64 1) rfl
      have q1 := L2.out.cell 1 (v := .int .i64 X') rfl
      have q2 := L2.out.cell 2 (v := .int .i64 Y') rfl
      have r0 := L3.out.cell 0 (v := .int .i64 1) rfl
      have r1 := L3.out.cell 1 (v := .int .i64 X) rfl
      have r2 := L3.out.cell 2 (v := .int .i64 Y) rfl
      have f0 := L2.out.frozen 0
      have f1 := L2.out.frozen 1
      have f2 := L2.out.frozen 2
      rcases Nat.eq_zero_or_pos k with hk0 | hk0
      · obtain rfl : X = d := hz1.out hk0
        obtain rfl : Y = -X := hz2.out hk0
        have t0 : ((k : Int) == 0) = true := by simp; omega
        subst hk0
        by_cases hp : 0 < X
        · have hdp : ¬ X < 0 := fun h => by have := hsg.2 (by omega); omega
          have g1 : decide (0 < X) = true := decide_eq_true hp
          have g2 : decide (X < 0) = false := decide_eq_false hdp
          have g3' : decide (X < 0) = false := decide_eq_false (by omega)
          clear hp hdp hsg
          have HGW2 : w.heap.size ≤ g + 1 := by have := HGW.out; omega
          go_big_quiet (first | (go_at_call 30; exact Calls.quiet_of_same (F1.out _)) | (go_at_call 30; exact Calls.quiet_of_same (F2.out _)) | (go_at_call 30; exact Calls.quiet_of_same (F3.out _)) | (go_at_call 30; exact Calls.quiet_of_same (F4.out _)))
          go_wp2
          go_roundw
          case rel => exact ⟨0 + 1, by omega, by go_num, Lib.hid (((L1.out.other _ _ _ (by omega)).other _ _ _ (by omega)).other _ _ _ (by omega)), by rw [HK1.out, ← HX.out, ← HY.out]; exact Lib.hid (((L2.out.set 0 _).set 1 _).set 2 _), Lib.hid ((((drewN_belowS HB6.out _).setCell (p := ⟨g + 1, 0, none⟩) HGW2 _).setCell (p := ⟨g + 1, 1, none⟩) HGW2 _).setCell (p := ⟨g + 1, 2, none⟩) HGW2 _)⟩
          case measure => simp [intOf] <;> omega
        · by_cases hn : X < 0
          · have hdn : ¬ 0 < X := fun h => by have := hsg.1 (by omega); omega
            have g1 : decide (0 < X) = false := decide_eq_false hp
            have g2 : decide (0 < X) = false := decide_eq_false hdn
            have g3' : decide (X < 0) = true := decide_eq_true hn
            clear hp hn hdn hsg
            have HGW2 : w.heap.size ≤ g + 1 := by have := HGW.out; omega
            go_big_quiet (first | (go_at_call 30; exact Calls.quiet_of_same (F1.out _)) | (go_at_call 30; exact Calls.quiet_of_same (F2.out _)) | (go_at_call 30; exact Calls.quiet_of_same (F3.out _)) | (go_at_call 30; exact Calls.quiet_of_same (F4.out _)))
            go_wp2
            go_roundw
            case rel => exact ⟨0 + 1, by omega, by go_num, Lib.hid (((L1.out.other _ _ _ (by omega)).other _ _ _ (by omega)).other _ _ _ (by omega)), by rw [HK1.out, ← HX.out, ← HY.out]; exact Lib.hid (((L2.out.set 0 _).set 1 _).set 2 _), Lib.hid ((((drewN_belowS HB6.out _).setCell (p := ⟨g + 1, 0, none⟩) HGW2 _).setCell (p := ⟨g + 1, 1, none⟩) HGW2 _).setCell (p := ⟨g + 1, 2, none⟩) HGW2 _)⟩
            case measure => simp [intOf] <;> omega
          · have g1 : decide (0 < X) = false := decide_eq_false hp
            have g3' : decide (X < 0) = false := decide_eq_false hn
            clear hp hn hsg
            have HGW2 : w.heap.size ≤ g + 1 := by have := HGW.out; omega
            go_big_quiet (first | (go_at_call 30; exact Calls.quiet_of_same (F1.out _)) | (go_at_call 30; exact Calls.quiet_of_same (F2.out _)) | (go_at_call 30; exact Calls.quiet_of_same (F3.out _)) | (go_at_call 30; exact Calls.quiet_of_same (F4.out _)))
            go_wp2
            go_roundw
            case rel => exact ⟨0 + 1, by omega, by go_num, Lib.hid (((L1.out.other _ _ _ (by omega)).other _ _ _ (by omega)).other _ _ _ (by omega)), by rw [HK1.out, ← HX.out, ← HY.out]; exact Lib.hid (((L2.out.set 0 _).set 1 _).set 2 _), Lib.hid ((((drewN_belowS HB6.out _).setCell (p := ⟨g + 1, 0, none⟩) HGW2 _).setCell (p := ⟨g + 1, 1, none⟩) HGW2 _).setCell (p := ⟨g + 1, 2, none⟩) HGW2 _)⟩
            case measure => simp [intOf] <;> omega
      · have t0 : ((k : Int) == 0) = false := by simp; omega
        have t1 : (k == 0) = false := by simp; omega
        by_cases hp : 0 < X
        · have hdp : ¬ d < 0 := fun h => by have := hsg.2 (by omega); omega
          have g1 : decide (0 < X) = true := decide_eq_true hp
          have g2 : decide (d < 0) = false := decide_eq_false hdp
          have g3' : decide (X < 0) = false := decide_eq_false (by omega)
          clear hp hdp hsg
          have HGW2 : w.heap.size ≤ g + 1 := by have := HGW.out; omega
          go_big_quiet (first | (go_at_call 30; exact Calls.quiet_of_same (F1.out _)) | (go_at_call 30; exact Calls.quiet_of_same (F2.out _)) | (go_at_call 30; exact Calls.quiet_of_same (F3.out _)) | (go_at_call 30; exact Calls.quiet_of_same (F4.out _)))
          go_wp2
          go_roundw
          case rel => exact ⟨k + 1, by omega, by go_num, Lib.hid (((L1.out.other _ _ _ (by omega)).other _ _ _ (by omega)).other _ _ _ (by omega)), by rw [HK1.out, ← HX.out, ← HY.out]; exact Lib.hid (((L2.out.set 0 _).set 1 _).set 2 _), Lib.hid ((((drewN_belowS HB6.out _).setCell (p := ⟨g + 1, 0, none⟩) HGW2 _).setCell (p := ⟨g + 1, 1, none⟩) HGW2 _).setCell (p := ⟨g + 1, 2, none⟩) HGW2 _)⟩
          case measure => simp [intOf] <;> omega
        · by_cases hn : X < 0
          · have hdn : ¬ 0 < d := fun h => by have := hsg.1 (by omega); omega
            have g1 : decide (0 < X) = false := decide_eq_false hp
            have g2 : decide (0 < d) = false := decide_eq_false hdn
            have g3' : decide (X < 0) = true := decide_eq_true hn
            clear hp hn hdn hsg
            have HGW2 : w.heap.size ≤ g + 1 := by have := HGW.out; omega
            go_big_quiet (first | (go_at_call 30; exact Calls.quiet_of_same (F1.out _)) | (go_at_call 30; exact Calls.quiet_of_same (F2.out _)) | (go_at_call 30; exact Calls.quiet_of_same (F3.out _)) | (go_at_call 30; exact Calls.quiet_of_same (F4.out _)))
            go_wp2
            go_roundw
            case rel => exact ⟨k + 1, by omega, by go_num, Lib.hid (((L1.out.other _ _ _ (by omega)).other _ _ _ (by omega)).other _ _ _ (by omega)), by rw [HK1.out, ← HX.out, ← HY.out]; exact Lib.hid (((L2.out.set 0 _).set 1 _).set 2 _), Lib.hid ((((drewN_belowS HB6.out _).setCell (p := ⟨g + 1, 0, none⟩) HGW2 _).setCell (p := ⟨g + 1, 1, none⟩) HGW2 _).setCell (p := ⟨g + 1, 2, none⟩) HGW2 _)⟩
            case measure => simp [intOf] <;> omega
          · have g1 : decide (0 < X) = false := decide_eq_false hp
            have g3' : decide (X < 0) = false := decide_eq_false hn
            clear hp hn hsg
            have HGW2 : w.heap.size ≤ g + 1 := by have := HGW.out; omega
            go_big_quiet (first | (go_at_call 30; exact Calls.quiet_of_same (F1.out _)) | (go_at_call 30; exact Calls.quiet_of_same (F2.out _)) | (go_at_call 30; exact Calls.quiet_of_same (F3.out _)) | (go_at_call 30; exact Calls.quiet_of_same (F4.out _)))
            go_wp2
            go_roundw
            case rel => exact ⟨k + 1, by omega, by go_num, Lib.hid (((L1.out.other _ _ _ (by omega)).other _ _ _ (by omega)).other _ _ _ (by omega)), by rw [HK1.out, ← HX.out, ← HY.out]; exact Lib.hid (((L2.out.set 0 _).set 1 _).set 2 _), Lib.hid ((((drewN_belowS HB6.out _).setCell (p := ⟨g + 1, 0, none⟩) HGW2 _).setCell (p := ⟨g + 1, 1, none⟩) HGW2 _).setCell (p := ⟨g + 1, 2, none⟩) HGW2 _)⟩
            case measure => simp [intOf] <;> omega
    · obtain rfl : k = D + 1 := by omega
      have hk3 := hk2
      rw [show D + 1 - 1 = D by omega, lf_end, lf_end] at hk3
      have q0 := hk3.out.cell 0 (v := .int .i64 1) rfl
      have q1 := hk3.out.cell 1 (v := .int .i64 0) rfl
      have q2 := hk3.out.cell 2 (v := .int .i64 0) rfl
      have hkD : ¬ (((D + 1 : Nat) : Int) ≤ (D : Int)) := by omega
      have hkD2 : ¬ (D + 1 ≤ D) := by omega
      clear hk2 hk3 hlt hk
      go_wp2
      go_ret
      exact ⟨rfl, hbel.out⟩
end Go.Proofs.Ytdaohjimfgdmbaa
