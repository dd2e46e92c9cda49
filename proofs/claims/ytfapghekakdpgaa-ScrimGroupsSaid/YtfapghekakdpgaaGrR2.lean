/- The document's Leave and Ghosts; the fixed fact of layer 25. -/
import Derived.Test.YtfapghekakdpgaaGrR
import Derived.Test.YtfapghekakdpgaaGrW4
namespace Go.Proofs.Ytfapghekakdpgaa
open Go.RowKit Gr
set_option linter.unusedVariables false
set_option maxHeartbeats 4000000 in
set_option maxRecDepth 100000 in
theorem rleave_any (A : Option Addr) (n c : Nat) (L : List Gk) (B : Option Addr) (m d : Nat) (keys : List ByteArray) (w : World) (hn : n = L.length) (hm : m = keys.length) (h1 : n ≤ 1000) (h2 : m ≤ 1000) (hmd : m ≤ d) (hd : d ≤ maxLen) (hnB : B = none → m = 0 ∧ d = 0) (ha : At w A (gcs L)) (hb : At w B (sv keys)) :
    Calls Try.prog 17 #[.slice A n c, .slice B m d] w fun e w' => ∃ v, e = .returned v ∧ w'.ownsRow w.heap.size 3 1 v (wh n (leaveQ L (tks L keys))).length (nv (wh n (leaveQ L (tks L keys)))) ∧ Below w.heap.size w w' := by
  have HN := Lib.hid hn
  have HA := Lib.hid ha
  have CT := Lib.hid (fun W (hW : Below w.heap.size w W) => rtake_any A n c L B m d keys W hn hm h1 h2 hmd hd hnB (ha.below hW) (hb.below hW))
  have HTL : Hid (m = (tks L keys).length) := by show _ = _; rw [tks_len]; exact hm
  obtain ⟨i0, hi, hz0, hz1, hz2⟩ := info_parts infoInt
  clear hn hm ha hb hnB
  generalize tks L keys = T at *
  go_enter Try.func17, Try.ntmps17
  go_wp2_with fail
  go_loopw [5, 11] (fun v i wy => ∃ j : Nat, j ≤ n ∧ i = .int .i64 j ∧ Hid (wy.ownsRow w.heap.size 3 1 v (wh j (leaveQ L T)).length (nv (wh j (leaveQ L T)))) ∧ Hid (Below w.heap.size w wy)) (fun _ i _ => n - (intOf i).toNat)
  case atStart => exact ⟨0, Nat.zero_le _, rfl, own_made w _ rfl (Nat.le_refl _), below_alloc _ _⟩
  case round =>
    obtain ⟨j, hj, rfl, hown, hbel⟩ := hrel
    by_cases hjn : j < n
    · have hjl : j < L.length := by have := HN.out; omega
      have hwr := hbel.out.size
      have hgl := wh_le j (leaveQ L T)
      have hnx := wh_next j (leaveQ L T)
      obtain ⟨AE, cE, rfl, hcE, hcE2⟩ := own_slice hown.out
      obtain ⟨b1, o1, hAe, hb1, hc0, hc1⟩ := at_gk HA.out hjl
      have hd0 := ((below_cells hbel.out).1 b1 (o1 + j * 2) hb1).trans hc0
      have hd1 := ((below_cells hbel.out).1 b1 (o1 + j * 2 + 1) hb1).trans hc1
      have hq : leaveQ L T j = (!(gk L j).2 && !decide ((j : Int) ∈ T)) := rfl
      rw [hq] at hnx
      obtain ⟨x1, hx1⟩ : ∃ x, x = (gk L j).1 := ⟨_, rfl⟩
      obtain ⟨g1, hg1⟩ : ∃ x, x = (gk L j).2 := ⟨_, rfl⟩
      rw [← hx1] at hd0
      rw [← hg1] at hd1 hnx
      clear hx1 hg1 hc0 hc1 hq
      subst hAe
      obtain ⟨W3, hW3⟩ : ∃ W, W = wr.alloc (.cells #[.string x1, .bool g1] 35) := ⟨_, rfl⟩
      have K3 : Blk W3 wr.heap.size 35 #[.string x1, .bool g1] := by rw [hW3]; exact Blk.new wr _ _
      have HB3 := Lib.hid (show Below w.heap.size w W3 by rw [hW3]; exact hbel.out.alloc hwr _)
      have HO3 := Lib.hid (own_below hown.out (show Below wr.heap.size wr W3 by rw [hW3]; exact below_alloc _ _))
      have q1 := K3.cell 1 (v := .bool g1) rfl
      have HW3 := Lib.hid hW3
      clear hW3 K3 hown hbel
      cases g1 with
      | true =>
        have HNX : Hid (wh (j + 1) (leaveQ L T) = wh j (leaveQ L T)) := by show _ = _; simpa using hnx
        have HSZ := HB3.out.size
        clear hnx
        go_upto_region 5 with fail
        rw [← HW3.out]
        go_wp2_with fail
        go_roundw
        case rel => exact ⟨j + 1, by omega, by go_num, by show World.ownsRow _ _ _ _ _ _ _; rw [HNX.out]; exact HO3.out, HB3⟩
        case measure => simp [intOf]; omega
      | false =>
        obtain ⟨q, hq⟩ : ∃ q, q = decide ((j : Int) ∈ T) := ⟨_, rfl⟩
        rw [← hq] at hnx
        have HQ := Lib.hid hq
        have HNX : Hid (wh (j + 1) (leaveQ L T) = if q = false then wh j (leaveQ L T) ++ [j] else wh j (leaveQ L T)) := by show _ = _; rw [hnx]; cases q <;> simp
        clear hnx hq
        go_upto_region 5 with fail
        rw [← HW3.out]
        go_wp2_with fail
        refine (CT.out _ HB3.out).mono ?_
        rintro e w4 ⟨v4, rfl, ho4, hb4⟩
        obtain ⟨A4, c4, rfl, _, hm4⟩ := own_slice ho4
        have HT4 := Lib.hid (At.own ho4)
        have HB4 := Lib.hid (HB3.out.trans (hb4.mono HB3.out.size))
        have HO4 := Lib.hid (own_below HO3.out hb4)
        clear ho4 hb4 HB3 HO3
        go_wp2_with fail
        refine (in_any A4 m c4 T (j : Int) w4 HTL.out (by omega) HT4.out).mono ?_
        rintro e w5 ⟨rfl, hb5⟩
        rw [← HQ.out]
        have HBX := Lib.hid (HB4.out.trans (hb5.mono HB4.out.size))
        have HOX := Lib.hid (own_below HO4.out hb5)
        have hsx := HBX.out.size
        clear hb5 HB4 HO4 HT4
        cases q with
        | false =>
          have HNY : Hid (wh (j + 1) (leaveQ L T) = wh j (leaveQ L T) ++ [j]) := by show _ = _; simpa using HNX.out
          clear HNX
          go_wp2_with (at_builtin; refine wpList_append_own _ rfl _ _ 29 rfl w.heap.size 3 i0 (.int .i64 0) 1 8 Try.underlying29 hi hz0 hz1 hz2 rfl (by decide) _ _ _ rfl (HOX.out.alloc _) ⟨_, 0, none⟩ 1 1 [.int .i64 (j : Int)] rfl rfl (cell_one_new _ _ _) (nv_one [j]) (by unfold maxLen; omega) (by omega) (by simp; omega) ?_; intro v1 w1 hown1 hgrow1 _hnil1; have HO1 := Lib.hid hown1; have HG1 := Lib.hid hgrow1; clear hown1 hgrow1 _hnil1)
          go_roundw
          case rel => exact ⟨j + 1, by omega, by go_num, by show World.ownsRow _ _ _ _ _ _ _; rw [HNY.out, List.length_append, nv_app]; exact HO1.out, (HBX.out.alloc hsx _).grown HG1.out (by simp; omega) (own_from HOX.out)⟩
          case measure => simp [intOf]; omega
        | true =>
          have HNY : Hid (wh (j + 1) (leaveQ L T) = wh j (leaveQ L T)) := by show _ = _; simpa using HNX.out
          clear HNX
          go_wp2_with fail
          go_roundw
          case rel => exact ⟨j + 1, by omega, by go_num, by show World.ownsRow _ _ _ _ _ _ _; rw [HNY.out]; exact HOX.out, HBX⟩
          case measure => simp [intOf]; omega
    · obtain rfl : j = n := by omega
      go_wp2
      go_ret
      exact ⟨_, rfl, hown.out, hbel.out⟩
set_option maxHeartbeats 4000000 in
set_option maxRecDepth 100000 in
theorem rghosts_any (A : Option Addr) (n c : Nat) (L : List Gk) (B : Option Addr) (m d : Nat) (keys : List ByteArray) (w : World) (hn : n = L.length) (hm : m = keys.length) (h1 : n ≤ 1000) (h2 : m ≤ 1000) (hmd : m ≤ d) (hd : d ≤ maxLen) (hnB : B = none → m = 0 ∧ d = 0) (ha : At w A (gcs L)) (hb : At w B (sv keys)) :
    Calls Try.prog 22 #[.slice A n c, .slice B m d] w fun e w' => ∃ v, e = .returned v ∧ w'.ownsRow w.heap.size 3 1 v (wh n (ghostQ (tks L keys))).length (nv (wh n (ghostQ (tks L keys)))) ∧ Below w.heap.size w w' := by
  have HN := Lib.hid hn
  have HA := Lib.hid ha
  have CT := Lib.hid (fun W (hW : Below w.heap.size w W) => rtake_any A n c L B m d keys W hn hm h1 h2 hmd hd hnB (ha.below hW) (hb.below hW))
  have HTL : Hid (m = (tks L keys).length) := by show _ = _; rw [tks_len]; exact hm
  obtain ⟨i0, hi, hz0, hz1, hz2⟩ := info_parts infoInt
  clear hn hm ha hb hnB
  generalize tks L keys = T at *
  go_enter Try.func22, Try.ntmps22
  go_wp2_with fail
  go_loopw [5, 10] (fun v i wy => ∃ j : Nat, j ≤ n ∧ i = .int .i64 j ∧ Hid (wy.ownsRow w.heap.size 3 1 v (wh j (ghostQ T)).length (nv (wh j (ghostQ T)))) ∧ Hid (Below w.heap.size w wy)) (fun _ i _ => n - (intOf i).toNat)
  case atStart => exact ⟨0, Nat.zero_le _, rfl, own_made w _ rfl (Nat.le_refl _), below_alloc _ _⟩
  case round =>
    obtain ⟨j, hj, rfl, hown, hbel⟩ := hrel
    by_cases hjn : j < n
    · have hjl : j < L.length := by have := HN.out; omega
      have hwr := hbel.out.size
      have hgl := wh_le j (ghostQ T)
      have hnx := wh_next j (ghostQ T)
      obtain ⟨AE, cE, rfl, hcE, hcE2⟩ := own_slice hown.out
      have hq : ghostQ T j = !decide ((j : Int) ∈ T) := rfl
      rw [hq] at hnx
      clear hq
      obtain ⟨q, hq⟩ : ∃ q, q = decide ((j : Int) ∈ T) := ⟨_, rfl⟩
      rw [← hq] at hnx
      have HQ := Lib.hid hq
      have HNX : Hid (wh (j + 1) (ghostQ T) = if q = false then wh j (ghostQ T) ++ [j] else wh j (ghostQ T)) := by show _ = _; rw [hnx]; cases q <;> simp
      have HO3 := hown
      have HB3 := hbel
      clear hnx hq hown hbel
      go_wp2_with fail
      refine (CT.out _ HB3.out).mono ?_
      rintro e w4 ⟨v4, rfl, ho4, hb4⟩
      obtain ⟨A4, c4, rfl, _, hm4⟩ := own_slice ho4
      have HT4 := Lib.hid (At.own ho4)
      have HB4 := Lib.hid (HB3.out.trans (hb4.mono HB3.out.size))
      have HO4 := Lib.hid (own_below HO3.out hb4)
      clear ho4 hb4 HB3 HO3
      go_wp2_with fail
      refine (in_any A4 m c4 T (j : Int) w4 HTL.out (by omega) HT4.out).mono ?_
      rintro e w5 ⟨rfl, hb5⟩
      rw [← HQ.out]
      have HBX := Lib.hid (HB4.out.trans (hb5.mono HB4.out.size))
      have HOX := Lib.hid (own_below HO4.out hb5)
      have hsx := HBX.out.size
      clear hb5 HB4 HO4 HT4
      cases q with
      | false =>
        have HNY : Hid (wh (j + 1) (ghostQ T) = wh j (ghostQ T) ++ [j]) := by show _ = _; simpa using HNX.out
        clear HNX
        go_wp2_with (at_builtin; refine wpList_append_own _ rfl _ _ 29 rfl w.heap.size 3 i0 (.int .i64 0) 1 8 Try.underlying29 hi hz0 hz1 hz2 rfl (by decide) _ _ _ rfl (HOX.out.alloc _) ⟨_, 0, none⟩ 1 1 [.int .i64 (j : Int)] rfl rfl (cell_one_new _ _ _) (nv_one [j]) (by unfold maxLen; omega) (by omega) (by simp; omega) ?_; intro v1 w1 hown1 hgrow1 _hnil1; have HO1 := Lib.hid hown1; have HG1 := Lib.hid hgrow1; clear hown1 hgrow1 _hnil1)
        go_roundw
        case rel => exact ⟨j + 1, by omega, by go_num, by show World.ownsRow _ _ _ _ _ _ _; rw [HNY.out, List.length_append, nv_app]; exact HO1.out, (HBX.out.alloc hsx _).grown HG1.out (by simp; omega) (own_from HOX.out)⟩
        case measure => simp [intOf]; omega
      | true =>
        have HNY : Hid (wh (j + 1) (ghostQ T) = wh j (ghostQ T)) := by show _ = _; simpa using HNX.out
        clear HNX
        go_wp2_with fail
        go_roundw
        case rel => exact ⟨j + 1, by omega, by go_num, by show World.ownsRow _ _ _ _ _ _ _; rw [HNY.out]; exact HOX.out, HBX⟩
        case measure => simp [intOf]; omega
    · obtain rfl : j = n := by omega
      go_wp2
      go_ret
      exact ⟨_, rfl, hown.out, hbel.out⟩
end Go.Proofs.Ytfapghekakdpgaa
