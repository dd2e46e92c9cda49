/- Contracts of group's marked and where. -/
import Derived.Test.YtfapghekakdpgaaGrW1
import Derived.Deep.RegionHeld3
import Derived.Deep.RegionLaw
import Derived.Maps.AppendAt
import Derived.StillTailTactics
namespace Go.Proofs.Ytfapghekakdpgaa
open Go.RowKit Gr Go.Maps
set_option maxHeartbeats 2000000 in
set_option maxRecDepth 100000 in
theorem marked_any (n : Nat) (A : Option Addr) (m c : Nat) (l : List Int) (w : World) (hm : m = l.length) (h1 : n ≤ 100000) (h2 : m ≤ 100000) (ha : At w A (iv l)) :
    Calls Try.prog 39 #[.int .i64 n, .slice A m c] w fun e w' => ∃ v, e = .returned v ∧ w'.ownsRow w.heap.size 4 1 v n (bv (mks n l)) ∧ Below w.heap.size w w' := by
  have HM := Lib.hid hm
  obtain ⟨b0, bi, bz0, bz1, bz2⟩ := info_parts infoBool
  obtain ⟨w2, hmk, hrow, hgm⟩ := run_makeSlice_full (P := Try.prog) w w.heap.size 80 4 b0 (.bool false) 1 Try.underlying80 bi bz0 bz1 .i64 .i64 n (by omega) (by rw [bz2]; omega) (by unfold maxLen; omega) (Nat.le_refl _)
  have HR2 : Hid (w2.ownsRow w.heap.size 4 1 (.slice (some ⟨w.heap.size, 0, none⟩) n n) n (bv (mks n (l.take 0)))) := by
    show World.ownsRow _ _ _ _ _ _ _
    rw [List.take_zero, bv_zero]
    exact hrow
  have HB2 : Hid (Below w.heap.size w w2) := (Below.refl w.heap.size w).grown hgm (Nat.le_refl _) (fun q hq => nomatch hq)
  have HA2 : Hid (At w2 A (iv l)) := ha.below HB2.out
  have HAB : Hid (∀ b o, A = some ⟨b, o, none⟩ → iv l ≠ [] → b < w.heap.size) := fun b o e hne => by
    obtain ⟨b', o', e', hb', _⟩ := ha hne
    rw [e] at e'
    injection e' with e'
    injection e' with e1 e2
    omega
  clear hm ha hrow hgm
  go_enter Try.func39, Try.ntmps39
  go_wp2
  clear hmk
  go_loopw [12] (fun i wr => ∃ k : Nat, k ≤ m ∧ i = .int .i64 k ∧ Hid (wr.ownsRow w.heap.size 4 1 (.slice (some ⟨w.heap.size, 0, none⟩) n n) n (bv (mks n (l.take k)))) ∧ Hid (w2.grownBy wr (some w.heap.size))) (fun i _ => m - (intOf i).toNat)
  case atStart => exact ⟨0, Nat.zero_le _, rfl, HR2, World.grownBy.refl _ _⟩
  case round =>
    obtain ⟨k, hk, rfl, hrow, hgr⟩ := hrel
    by_cases hlt : k < m
    · have hkl : k < l.length := by have := HM.out; omega
      obtain ⟨b1, o1, hA, hb1, hc1⟩ := HA2.out.one (iv_at l k hkl)
      have hne : b1 ≠ w.heap.size := by
        have := HAB.out b1 o1 hA (fun e => by have h9 := iv_len l; rw [e] at h9; simp at h9; omega)
        omega
      have hd1 : wr.cell? ⟨b1, o1 + k, none⟩ = _ := hgr.out.cell hc1 (by intro e; injection e with e; exact hne e)
      have hin := fun (j : Nat) (hj : ats l k = (j : Int)) => mks_in n l k j hkl hj
      have hout := mks_out n l k hkl
      obtain ⟨x, hx⟩ : ∃ x, x = ats l k := ⟨_, rfl⟩
      rw [← hx] at hd1 hin hout
      have HIN := Lib.hid hin
      have HOUT := Lib.hid hout
      subst hA
      clear hx hc1 hin hout
      by_cases h0 : 0 ≤ x
      · obtain ⟨j, rfl⟩ : ∃ j : Nat, x = (j : Int) := ⟨x.toNat, by omega⟩
        by_cases hjn : j < n
        · have HX := Lib.hid (HIN.out j rfl)
          have hll : j < (bv (mks n (l.take k))).length := by rw [bv_len, mks_len]; exact hjn
          obtain ⟨u0, hu0⟩ : ∃ u, wr.cell? ⟨w.heap.size, j, none⟩ = some u := ⟨_, (hrow.out.cellAt j (by omega)).trans (List.getElem?_eq_getElem hll)⟩
          have hf0 := hrow.out.frozenAt j
          clear hll
          go_wp2_with fail
          go_roundw
          case rel => exact ⟨k + 1, by omega, by go_num, by show World.ownsRow _ _ _ _ _ _ _; rw [← HX.out, bv_set]; exact (hrow.out.stored _ _).1, hgr.out.trans (hrow.out.stored _ _).2⟩
          case measure => simp [intOf]; omega
        · have HX := Lib.hid (HOUT.out (.inr (by omega)))
          go_wp2_with fail
          go_roundw
          case rel => exact ⟨k + 1, by omega, by go_num, by show World.ownsRow _ _ _ _ _ _ _; rw [← HX.out]; exact hrow.out, hgr⟩
          case measure => simp [intOf]; omega
      · have HX := Lib.hid (HOUT.out (.inl (by omega)))
        go_wp2_with fail
        go_roundw
        case rel => exact ⟨k + 1, by omega, by go_num, by show World.ownsRow _ _ _ _ _ _ _; rw [← HX.out]; exact hrow.out, hgr⟩
        case measure => simp [intOf]; omega
    · obtain rfl : k = m := by omega
      have HX := Lib.hid hrow.out
      go_wp2
      go_ret
      exact ⟨_, rfl, by have h9 := HX.out; rw [HM.out, List.take_length] at h9; exact h9, HB2.out.grown hgr.out HB2.out.size (fun p hp => by injection hp with hp; omega)⟩
set_option maxHeartbeats 2000000 in
set_option maxRecDepth 100000 in
theorem where_of (n : Nat) (bo bt : Nat) (q : Nat → Bool) (w : World) (h1 : n ≤ 100000) (hc : ∀ W (i : Nat), i < n → Below w.heap.size w W → Calls Try.prog 41 #[.int .i64 i, .pointer (some ⟨bo, 0, none⟩), .pointer (some ⟨bt, 0, none⟩)] W fun e W' => e = .returned (.bool (q i)) ∧ Below W.heap.size W W') :
    Calls Try.prog 40 #[.int .i64 n, .func (.func 41) #[] #[.pointer (some ⟨bo, 0, none⟩), .pointer (some ⟨bt, 0, none⟩)]] w fun e w' => ∃ v, e = .returned v ∧ w'.ownsRow w.heap.size 3 1 v (wh n q).length (nv (wh n q)) ∧ Below w.heap.size w w' := by
  have HC := Lib.hid hc
  obtain ⟨i0, hi, hz0, hz1, hz2⟩ := info_parts infoInt
  clear hc
  go_enter Try.func40, Try.ntmps40
  go_wp2
  go_loopw [5, 8] (fun v i wy => ∃ j : Nat, j ≤ n ∧ i = .int .i64 j ∧ Hid (wy.ownsRow w.heap.size 3 1 v (wh j q).length (nv (wh j q))) ∧ Hid (Below w.heap.size w wy)) (fun _ i _ => n - (intOf i).toNat)
  case atStart => exact ⟨0, Nat.zero_le _, rfl, World.ownsRow_nil _ _ _ _, Below.refl _ _⟩
  case round =>
    obtain ⟨j, hj, rfl, hown, hbel⟩ := hrel
    by_cases hjn : j < n
    · have hwr := hbel.out.size
      have hgl := wh_le j q
      have HNX := Lib.hid (wh_next j q)
      have CJ := Lib.hid (HC.out _ j hjn hbel.out)
      obtain ⟨b, hb⟩ : ∃ b, b = q j := ⟨_, rfl⟩
      rw [← hb] at HNX CJ
      clear hb
      obtain ⟨AE, cE, rfl, hcE, hcE2⟩ := own_slice hown.out
      go_wp2_with fail
      refine CJ.out.mono ?_
      rintro e w6 ⟨rfl, hb6⟩
      have HO6 := Lib.hid (own_below hown.out hb6)
      have HB6 := Lib.hid (hbel.out.trans (hb6.mono hbel.out.size))
      have hw6 := HB6.out.size
      clear hown hbel CJ hb6
      cases b with
      | true =>
        have HY : Hid (wh (j + 1) q = wh j q ++ [j]) := by show _ = _; simpa using HNX.out
        clear HNX
        go_wp2_with (at_builtin; refine wpList_append_own _ rfl _ _ 29 rfl w.heap.size 3 i0 (.int .i64 0) 1 8 Try.underlying29 hi hz0 hz1 hz2 rfl (by decide) _ _ _ rfl (HO6.out.alloc _) ⟨_, 0, none⟩ 1 1 [.int .i64 (j : Int)] rfl rfl (cell_one_new _ _ _) (nv_one [j]) (by unfold maxLen; omega) (by omega) (by simp; omega) ?_; intro v1 w1 hown1 hgrow1 _hnil1; have HO1 := Lib.hid hown1; have HG1 := Lib.hid hgrow1; clear hown1 hgrow1 _hnil1)
        go_roundw
        case rel => exact ⟨j + 1, by omega, by go_num, by show World.ownsRow _ _ _ _ _ _ _; rw [HY.out, List.length_append, nv_app]; exact HO1.out, (HB6.out.alloc hw6 _).grown HG1.out (by simp; omega) (own_from HO6.out)⟩
        case measure => simp [intOf]; omega
      | false =>
        have HY : Hid (wh (j + 1) q = wh j q) := by show _ = _; simpa using HNX.out
        clear HNX
        go_wp2_with fail
        go_roundw
        case rel => exact ⟨j + 1, by omega, by go_num, by show World.ownsRow _ _ _ _ _ _ _; rw [HY.out]; exact HO6.out, HB6⟩
        case measure => simp [intOf]; omega
    · obtain rfl : j = n := by omega
      go_wp2
      go_ret
      exact ⟨_, rfl, hown.out, hbel.out⟩
set_option maxHeartbeats 2000000 in
set_option maxRecDepth 100000 in
theorem where_new (n : Nat) (bp : Nat) (q : Nat → Bool) (w : World) (h1 : n ≤ 100000) (hc : ∀ W (i : Nat), i < n → Below w.heap.size w W → Calls Try.prog 43 #[.int .i64 i, .pointer (some ⟨bp, 0, none⟩)] W fun e W' => e = .returned (.bool (q i)) ∧ Below W.heap.size W W') :
    Calls Try.prog 40 #[.int .i64 n, .func (.func 43) #[] #[.pointer (some ⟨bp, 0, none⟩)]] w fun e w' => ∃ v, e = .returned v ∧ w'.ownsRow w.heap.size 3 1 v (wh n q).length (nv (wh n q)) ∧ Below w.heap.size w w' := by
  have HC := Lib.hid hc
  obtain ⟨i0, hi, hz0, hz1, hz2⟩ := info_parts infoInt
  clear hc
  go_enter Try.func40, Try.ntmps40
  go_wp2
  go_loopw [5, 8] (fun v i wy => ∃ j : Nat, j ≤ n ∧ i = .int .i64 j ∧ Hid (wy.ownsRow w.heap.size 3 1 v (wh j q).length (nv (wh j q))) ∧ Hid (Below w.heap.size w wy)) (fun _ i _ => n - (intOf i).toNat)
  case atStart => exact ⟨0, Nat.zero_le _, rfl, World.ownsRow_nil _ _ _ _, Below.refl _ _⟩
  case round =>
    obtain ⟨j, hj, rfl, hown, hbel⟩ := hrel
    by_cases hjn : j < n
    · have hwr := hbel.out.size
      have hgl := wh_le j q
      have HNX := Lib.hid (wh_next j q)
      have CJ := Lib.hid (HC.out _ j hjn hbel.out)
      obtain ⟨b, hb⟩ : ∃ b, b = q j := ⟨_, rfl⟩
      rw [← hb] at HNX CJ
      clear hb
      obtain ⟨AE, cE, rfl, hcE, hcE2⟩ := own_slice hown.out
      go_wp2_with fail
      refine CJ.out.mono ?_
      rintro e w6 ⟨rfl, hb6⟩
      have HO6 := Lib.hid (own_below hown.out hb6)
      have HB6 := Lib.hid (hbel.out.trans (hb6.mono hbel.out.size))
      have hw6 := HB6.out.size
      clear hown hbel CJ hb6
      cases b with
      | true =>
        have HY : Hid (wh (j + 1) q = wh j q ++ [j]) := by show _ = _; simpa using HNX.out
        clear HNX
        go_wp2_with (at_builtin; refine wpList_append_own _ rfl _ _ 29 rfl w.heap.size 3 i0 (.int .i64 0) 1 8 Try.underlying29 hi hz0 hz1 hz2 rfl (by decide) _ _ _ rfl (HO6.out.alloc _) ⟨_, 0, none⟩ 1 1 [.int .i64 (j : Int)] rfl rfl (cell_one_new _ _ _) (nv_one [j]) (by unfold maxLen; omega) (by omega) (by simp; omega) ?_; intro v1 w1 hown1 hgrow1 _hnil1; have HO1 := Lib.hid hown1; have HG1 := Lib.hid hgrow1; clear hown1 hgrow1 _hnil1)
        go_roundw
        case rel => exact ⟨j + 1, by omega, by go_num, by show World.ownsRow _ _ _ _ _ _ _; rw [HY.out, List.length_append, nv_app]; exact HO1.out, (HB6.out.alloc hw6 _).grown HG1.out (by simp; omega) (own_from HO6.out)⟩
        case measure => simp [intOf]; omega
      | false =>
        have HY : Hid (wh (j + 1) q = wh j q) := by show _ = _; simpa using HNX.out
        clear HNX
        go_wp2_with fail
        go_roundw
        case rel => exact ⟨j + 1, by omega, by go_num, by show World.ownsRow _ _ _ _ _ _ _; rw [HY.out]; exact HO6.out, HB6⟩
        case measure => simp [intOf]; omega
    · obtain rfl : j = n := by omega
      go_wp2
      go_ret
      exact ⟨_, rfl, hown.out, hbel.out⟩
set_option maxHeartbeats 2000000 in
set_option maxRecDepth 100000 in
theorem where_taking (n : Nat) (bp bo bf : Nat) (q : Nat → Bool) (w : World) (h1 : n ≤ 100000) (hc : ∀ W (i : Nat), i < n → Below w.heap.size w W → Calls Try.prog 62 #[.int .i64 i, .pointer (some ⟨bp, 0, none⟩), .pointer (some ⟨bo, 0, none⟩), .pointer (some ⟨bf, 0, none⟩)] W fun e W' => e = .returned (.bool (q i)) ∧ Below W.heap.size W W') :
    Calls Try.prog 40 #[.int .i64 n, .func (.func 62) #[] #[.pointer (some ⟨bp, 0, none⟩), .pointer (some ⟨bo, 0, none⟩), .pointer (some ⟨bf, 0, none⟩)]] w fun e w' => ∃ v, e = .returned v ∧ w'.ownsRow w.heap.size 3 1 v (wh n q).length (nv (wh n q)) ∧ Below w.heap.size w w' := by
  have HC := Lib.hid hc
  obtain ⟨i0, hi, hz0, hz1, hz2⟩ := info_parts infoInt
  clear hc
  go_enter Try.func40, Try.ntmps40
  go_wp2
  go_loopw [5, 8] (fun v i wy => ∃ j : Nat, j ≤ n ∧ i = .int .i64 j ∧ Hid (wy.ownsRow w.heap.size 3 1 v (wh j q).length (nv (wh j q))) ∧ Hid (Below w.heap.size w wy)) (fun _ i _ => n - (intOf i).toNat)
  case atStart => exact ⟨0, Nat.zero_le _, rfl, World.ownsRow_nil _ _ _ _, Below.refl _ _⟩
  case round =>
    obtain ⟨j, hj, rfl, hown, hbel⟩ := hrel
    by_cases hjn : j < n
    · have hwr := hbel.out.size
      have hgl := wh_le j q
      have HNX := Lib.hid (wh_next j q)
      have CJ := Lib.hid (HC.out _ j hjn hbel.out)
      obtain ⟨b, hb⟩ : ∃ b, b = q j := ⟨_, rfl⟩
      rw [← hb] at HNX CJ
      clear hb
      obtain ⟨AE, cE, rfl, hcE, hcE2⟩ := own_slice hown.out
      go_wp2_with fail
      refine CJ.out.mono ?_
      rintro e w6 ⟨rfl, hb6⟩
      have HO6 := Lib.hid (own_below hown.out hb6)
      have HB6 := Lib.hid (hbel.out.trans (hb6.mono hbel.out.size))
      have hw6 := HB6.out.size
      clear hown hbel CJ hb6
      cases b with
      | true =>
        have HY : Hid (wh (j + 1) q = wh j q ++ [j]) := by show _ = _; simpa using HNX.out
        clear HNX
        go_wp2_with (at_builtin; refine wpList_append_own _ rfl _ _ 29 rfl w.heap.size 3 i0 (.int .i64 0) 1 8 Try.underlying29 hi hz0 hz1 hz2 rfl (by decide) _ _ _ rfl (HO6.out.alloc _) ⟨_, 0, none⟩ 1 1 [.int .i64 (j : Int)] rfl rfl (cell_one_new _ _ _) (nv_one [j]) (by unfold maxLen; omega) (by omega) (by simp; omega) ?_; intro v1 w1 hown1 hgrow1 _hnil1; have HO1 := Lib.hid hown1; have HG1 := Lib.hid hgrow1; clear hown1 hgrow1 _hnil1)
        go_roundw
        case rel => exact ⟨j + 1, by omega, by go_num, by show World.ownsRow _ _ _ _ _ _ _; rw [HY.out, List.length_append, nv_app]; exact HO1.out, (HB6.out.alloc hw6 _).grown HG1.out (by simp; omega) (own_from HO6.out)⟩
        case measure => simp [intOf]; omega
      | false =>
        have HY : Hid (wh (j + 1) q = wh j q) := by show _ = _; simpa using HNX.out
        clear HNX
        go_wp2_with fail
        go_roundw
        case rel => exact ⟨j + 1, by omega, by go_num, by show World.ownsRow _ _ _ _ _ _ _; rw [HY.out]; exact HO6.out, HB6⟩
        case measure => simp [intOf]; omega
    · obtain rfl : j = n := by omega
      go_wp2
      go_ret
      exact ⟨_, rfl, hown.out, hbel.out⟩
set_option maxHeartbeats 2000000 in
set_option maxRecDepth 100000 in
theorem where_ghosts (n : Nat) (bl bo bt : Nat) (q : Nat → Bool) (w : World) (h1 : n ≤ 100000) (hc : ∀ W (i : Nat), i < n → Below w.heap.size w W → Calls Try.prog 47 #[.int .i64 i, .pointer (some ⟨bl, 0, none⟩), .pointer (some ⟨bo, 0, none⟩), .pointer (some ⟨bt, 0, none⟩)] W fun e W' => e = .returned (.bool (q i)) ∧ Below W.heap.size W W') :
    Calls Try.prog 40 #[.int .i64 n, .func (.func 47) #[] #[.pointer (some ⟨bl, 0, none⟩), .pointer (some ⟨bo, 0, none⟩), .pointer (some ⟨bt, 0, none⟩)]] w fun e w' => ∃ v, e = .returned v ∧ w'.ownsRow w.heap.size 3 1 v (wh n q).length (nv (wh n q)) ∧ Below w.heap.size w w' := by
  have HC := Lib.hid hc
  obtain ⟨i0, hi, hz0, hz1, hz2⟩ := info_parts infoInt
  clear hc
  go_enter Try.func40, Try.ntmps40
  go_wp2
  go_loopw [5, 8] (fun v i wy => ∃ j : Nat, j ≤ n ∧ i = .int .i64 j ∧ Hid (wy.ownsRow w.heap.size 3 1 v (wh j q).length (nv (wh j q))) ∧ Hid (Below w.heap.size w wy)) (fun _ i _ => n - (intOf i).toNat)
  case atStart => exact ⟨0, Nat.zero_le _, rfl, World.ownsRow_nil _ _ _ _, Below.refl _ _⟩
  case round =>
    obtain ⟨j, hj, rfl, hown, hbel⟩ := hrel
    by_cases hjn : j < n
    · have hwr := hbel.out.size
      have hgl := wh_le j q
      have HNX := Lib.hid (wh_next j q)
      have CJ := Lib.hid (HC.out _ j hjn hbel.out)
      obtain ⟨b, hb⟩ : ∃ b, b = q j := ⟨_, rfl⟩
      rw [← hb] at HNX CJ
      clear hb
      obtain ⟨AE, cE, rfl, hcE, hcE2⟩ := own_slice hown.out
      go_wp2_with fail
      refine CJ.out.mono ?_
      rintro e w6 ⟨rfl, hb6⟩
      have HO6 := Lib.hid (own_below hown.out hb6)
      have HB6 := Lib.hid (hbel.out.trans (hb6.mono hbel.out.size))
      have hw6 := HB6.out.size
      clear hown hbel CJ hb6
      cases b with
      | true =>
        have HY : Hid (wh (j + 1) q = wh j q ++ [j]) := by show _ = _; simpa using HNX.out
        clear HNX
        go_wp2_with (at_builtin; refine wpList_append_own _ rfl _ _ 29 rfl w.heap.size 3 i0 (.int .i64 0) 1 8 Try.underlying29 hi hz0 hz1 hz2 rfl (by decide) _ _ _ rfl (HO6.out.alloc _) ⟨_, 0, none⟩ 1 1 [.int .i64 (j : Int)] rfl rfl (cell_one_new _ _ _) (nv_one [j]) (by unfold maxLen; omega) (by omega) (by simp; omega) ?_; intro v1 w1 hown1 hgrow1 _hnil1; have HO1 := Lib.hid hown1; have HG1 := Lib.hid hgrow1; clear hown1 hgrow1 _hnil1)
        go_roundw
        case rel => exact ⟨j + 1, by omega, by go_num, by show World.ownsRow _ _ _ _ _ _ _; rw [HY.out, List.length_append, nv_app]; exact HO1.out, (HB6.out.alloc hw6 _).grown HG1.out (by simp; omega) (own_from HO6.out)⟩
        case measure => simp [intOf]; omega
      | false =>
        have HY : Hid (wh (j + 1) q = wh j q) := by show _ = _; simpa using HNX.out
        clear HNX
        go_wp2_with fail
        go_roundw
        case rel => exact ⟨j + 1, by omega, by go_num, by show World.ownsRow _ _ _ _ _ _ _; rw [HY.out]; exact HO6.out, HB6⟩
        case measure => simp [intOf]; omega
    · obtain rfl : j = n := by omega
      go_wp2
      go_ret
      exact ⟨_, rfl, hown.out, hbel.out⟩
end Go.Proofs.Ytfapghekakdpgaa
