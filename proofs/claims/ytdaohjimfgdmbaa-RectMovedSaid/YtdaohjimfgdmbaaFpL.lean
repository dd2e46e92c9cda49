/- What is left of a shift on its way: contracts of flip's Left and of the document's. -/
import Derived.Test.YtdaohjimfgdmbaaFpR
import Derived.Test.YtdaohjimfgdmbaaSatMD
import Derived.OpenShut
namespace Go.Proofs.Ytdaohjimfgdmbaa
open Go.RowKit Go.Maps Sn M
theorem okI_in {x : Int} (h : OkI x) : -9223372036854775808 ≤ x ∧ x ≤ 9223372036854775807 := by
  exact bounds_i64 h
/-- a quotient within 32 bits. -/
def qu (a b : Int) : Int := if st b = 0 then 0 else st (flo (st a) (st b))
def pt (d k dur : Int) : Int := qu (st (st d * st k)) dur
def leftV (id dx dy t dur : Int) : Value :=
  if dur < 1 ∨ dur ≤ t then .agg #[.int .i64 id, .int .i64 0, .int .i64 0] else if t < 1 then .agg #[.int .i64 id, .int .i64 dx, .int .i64 dy] else .agg #[.int .i64 id, .int .i64 (pt dx (dur - t) dur), .int .i64 (pt dy (dur - t) dur)]
theorem leftV_no {id dx dy t dur : Int} (h : dur < 1 ∨ dur ≤ t) : leftV id dx dy t dur = .agg #[.int .i64 id, .int .i64 0, .int .i64 0] := if_pos h
theorem leftV_all {id dx dy t dur : Int} (h1 : ¬ dur < 1) (h2 : ¬ dur ≤ t) (h3 : t < 1) : leftV id dx dy t dur = .agg #[.int .i64 id, .int .i64 dx, .int .i64 dy] := by unfold leftV; rw [if_neg (by omega), if_pos h3]
theorem leftV_some {id dx dy t dur : Int} (h1 : ¬ dur < 1) (h2 : ¬ dur ≤ t) (h3 : ¬ t < 1) : leftV id dx dy t dur = .agg #[.int .i64 id, .int .i64 (pt dx (dur - t) dur), .int .i64 (pt dy (dur - t) dur)] := by unfold leftV; rw [if_neg (by omega), if_neg h3]
theorem part_any (d k dur : Int) (w : World) : Calls Try.prog 51 #[.int .i64 d, .int .i64 k, .int .i64 dur] w fun e w' => e = .returned (.int .i64 (pt d k dur)) ∧ w = w' := by
  have C1 := Lib.hid (mul_any d k w)
  have C2 := Lib.hid (div_any (st (st d * st k)) dur w)
  unfold pt qu
  generalize (if st dur = 0 then 0 else st (flo (st (st (st d * st k))) (st dur))) = z at *
  generalize st (st d * st k) = y at *
  go_enter Try.func51, Try.ntmps51
  go_wp2_with fail
  refine C1.out.mono ?_
  rintro e w1 ⟨rfl, rfl⟩
  go_wp2_with fail
  refine C2.out.mono ?_
  rintro e w1 ⟨rfl, rfl⟩
  go_wp2
  go_ret
  exact ⟨rfl, rfl⟩
theorem ret_of {α : Type} {P : α → World → Prop} {w w' : World} {e : α} (h : P e w) (hw : w = w') : P e w' := hw ▸ h
set_option maxHeartbeats 4000000 in
set_option maxRecDepth 100000 in
theorem left_any (id dx dy t dur : Int) (w : World) (ht : OkI t) (hd : OkI dur) :
    Calls Try.prog 28 #[.agg #[.int .i64 id, .int .i64 dx, .int .i64 dy], .int .i64 t, .int .i64 dur] w fun e w' => e = .returned (leftV id dx dy t dur) ∧ Below w.heap.size w w' := by
  obtain ⟨g, hg⟩ : ∃ g, g = w.heap.size := ⟨_, rfl⟩
  obtain ⟨W0, hW0⟩ : ∃ W, W = (w.alloc (.cells #[.int .i64 id, .int .i64 dx, .int .i64 dy] 59)).alloc (.cells #[.int .i64 0, .int .i64 0, .int .i64 0] 59) := ⟨_, rfl⟩
  have B1 : Blk W0 g 59 #[.int .i64 id, .int .i64 dx, .int .i64 dy] := by rw [hW0, hg]; exact (Blk.new w _ _).alloc _
  have B2 : Blk W0 (g + 1) 59 #[.int .i64 0, .int .i64 0, .int .i64 0] := by rw [hW0, hg]; exact Blk.new' _ _ _ _ (by simp)
  have HB := Lib.hid (show Below w.heap.size w W0 by rw [hW0]; exact (below_alloc w _).alloc (by simp) _)
  have HK1 := Lib.hid B1
  have HK2 := Lib.hid B2
  have s0 := B1.cell 0 (v := .int .i64 id) rfl
  have s1 := B1.cell 1 (v := .int .i64 dx) rfl
  have s2 := B1.cell 2 (v := .int .i64 dy) rfl
  have r0 := B2.cell 0 (v := .int .i64 0) rfl
  have r1 := B2.cell 1 (v := .int .i64 0) rfl
  have r2 := B2.cell 2 (v := .int .i64 0) rfl
  have f0 := B2.frozen 0
  have f1 := B2.frozen 1
  have f2 := B2.frozen 2
  have HG := Lib.hid hg
  have HW0 := Lib.hid hW0
  clear B1 B2 hg hW0
  have hw1 : (-9223372036854775808 : Int) ≤ t ∧ t ≤ 9223372036854775807 := okI_in ht
  have hw2 : (-9223372036854775808 : Int) ≤ dur ∧ dur ≤ 9223372036854775807 := okI_in hd
  clear ht hd
  by_cases h1 : dur < 1
  · rw [leftV_no (.inl h1)]
    go_enter Try.func28, Try.ntmps28
    go_upto_region 1 with fail
    rw [← HW0.out, ← HG.out]
    go_wp2
    obtain ⟨V, hV⟩ : ∃ V, V = ((W0.setCell ⟨g + 1, 0, none⟩ (.int .i64 id)).setCell ⟨g + 1, 1, none⟩ (.int .i64 0)).setCell ⟨g + 1, 2, none⟩ (.int .i64 0) := ⟨_, rfl⟩
    rw [← hV]
    have hgw : w.heap.size ≤ g + 1 := by have := HG.out; omega
    have K3 : Blk V (g + 1) 59 #[.int .i64 id, .int .i64 0, .int .i64 0] := by rw [hV]; exact ((HK2.out.set 0 _).set 1 _).set 2 _
    have BV : Below w.heap.size w V := by rw [hV]; exact ((HB.out.setCell (p := ⟨g + 1, 0, none⟩) hgw _).setCell (p := ⟨g + 1, 1, none⟩) hgw _).setCell (p := ⟨g + 1, 2, none⟩) hgw _
    clear hV
    exact bodyPost_ret (results_mid rfl _ _ (g + 1) 0 [.int .i64 id, .int .i64 0, .int .i64 0] _ rfl (blk_rangeS K3) Try.underlying59 rfl (by kernel_rfl)) rfl ⟨rfl, BV⟩
  · by_cases h2 : dur ≤ t
    · rw [leftV_no (.inr h2)]
      go_enter Try.func28, Try.ntmps28
      go_upto_region 1 with fail
      rw [← HW0.out, ← HG.out]
      go_wp2
      obtain ⟨V, hV⟩ : ∃ V, V = ((W0.setCell ⟨g + 1, 0, none⟩ (.int .i64 id)).setCell ⟨g + 1, 1, none⟩ (.int .i64 0)).setCell ⟨g + 1, 2, none⟩ (.int .i64 0) := ⟨_, rfl⟩
      rw [← hV]
      have hgw : w.heap.size ≤ g + 1 := by have := HG.out; omega
      have K3 : Blk V (g + 1) 59 #[.int .i64 id, .int .i64 0, .int .i64 0] := by rw [hV]; exact ((HK2.out.set 0 _).set 1 _).set 2 _
      have BV : Below w.heap.size w V := by rw [hV]; exact ((HB.out.setCell (p := ⟨g + 1, 0, none⟩) hgw _).setCell (p := ⟨g + 1, 1, none⟩) hgw _).setCell (p := ⟨g + 1, 2, none⟩) hgw _
      clear hV
      exact bodyPost_ret (results_mid rfl _ _ (g + 1) 0 [.int .i64 id, .int .i64 0, .int .i64 0] _ rfl (blk_rangeS K3) Try.underlying59 rfl (by kernel_rfl)) rfl ⟨rfl, BV⟩
    · by_cases h3 : t < 1
      · rw [leftV_all h1 h2 h3]
        go_enter Try.func28, Try.ntmps28
        go_upto_region 1 with fail
        rw [← HW0.out, ← HG.out]
        go_wp2
        obtain ⟨V, hV⟩ : ∃ V, V = ((W0.setCell ⟨g + 1, 0, none⟩ (.int .i64 id)).setCell ⟨g + 1, 1, none⟩ (.int .i64 dx)).setCell ⟨g + 1, 2, none⟩ (.int .i64 dy) := ⟨_, rfl⟩
        rw [← hV]
        have hgw : w.heap.size ≤ g + 1 := by have := HG.out; omega
        have K3 : Blk V (g + 1) 59 #[.int .i64 id, .int .i64 dx, .int .i64 dy] := by rw [hV]; exact ((HK2.out.set 0 _).set 1 _).set 2 _
        have BV : Below w.heap.size w V := by rw [hV]; exact ((HB.out.setCell (p := ⟨g + 1, 0, none⟩) hgw _).setCell (p := ⟨g + 1, 1, none⟩) hgw _).setCell (p := ⟨g + 1, 2, none⟩) hgw _
        clear hV
        exact bodyPost_ret (results_mid rfl _ _ (g + 1) 0 [.int .i64 id, .int .i64 dx, .int .i64 dy] _ rfl (blk_rangeS K3) Try.underlying59 rfl (by kernel_rfl)) rfl ⟨rfl, BV⟩
      · rw [leftV_some h1 h2 h3]
        have hwr : IntKind.i64.wrap (dur - t) = dur - t := by rw [IntKind.wrap_i64]; omega
        obtain ⟨px, hpx⟩ : ∃ p, p = pt dx (dur - t) dur := ⟨_, rfl⟩
        obtain ⟨py, hpy⟩ : ∃ p, p = pt dy (dur - t) dur := ⟨_, rfl⟩
        have CP1 := Lib.hid (fun W => part_any dx (dur - t) dur W)
        have CP2 := Lib.hid (fun W => part_any dy (dur - t) dur W)
        rw [← hpx] at CP1
        rw [← hpy] at CP2
        rw [← hpx, ← hpy]
        clear hpx hpy
        go_enter Try.func28, Try.ntmps28
        go_upto_region 1 with fail
        rw [← HW0.out, ← HG.out]
        go_upto_region 5 with fail
        go_region_held3 (fun w' => w'.cell? ⟨g, 0, none⟩ = some (.int .i64 id) ∧ w'.cell? ⟨g, 1, none⟩ = some (.int .i64 dx) ∧ w'.cell? ⟨g, 2, none⟩ = some (.int .i64 dy)) (first | (refine ⟨?_, ?_, ?_⟩ <;> first | with_reducible assumption | go_keep) | go_keep) (first | (go_at_call 51; (with_reducible refine (CP1.out _).mono ?_); rintro e9 w9 ⟨rfl, rfl⟩) | (go_at_call 51; (with_reducible refine (CP2.out _).mono ?_); rintro e9 w9 ⟨rfl, rfl⟩))
        go_wp2
        obtain ⟨V, hV⟩ : ∃ V, V = (((W0.setCell ⟨g + 1, 0, none⟩ (.int .i64 id)).setCell ⟨g + 1, 1, none⟩ (.int .i64 px)).setCell ⟨g + 1, 2, none⟩ (.int .i64 py)).drew := ⟨_, rfl⟩
        rw [← hV]
        have hgw : w.heap.size ≤ g + 1 := by have := HG.out; omega
        have K3 : Blk V (g + 1) 59 #[.int .i64 id, .int .i64 px, .int .i64 py] := by rw [hV]; exact Blk.drew (((HK2.out.set 0 _).set 1 _).set 2 _)
        have BV : Below w.heap.size w V := by rw [hV]; exact Below_drew (((HB.out.setCell (p := ⟨g + 1, 0, none⟩) hgw _).setCell (p := ⟨g + 1, 1, none⟩) hgw _).setCell (p := ⟨g + 1, 2, none⟩) hgw _)
        clear hV
        exact bodyPost_ret (results_mid rfl _ _ (g + 1) 0 [.int .i64 id, .int .i64 px, .int .i64 py] _ rfl (blk_rangeS K3) Try.underlying59 rfl (by kernel_rfl)) rfl ⟨rfl, BV⟩
set_option maxHeartbeats 4000000 in
set_option maxRecDepth 100000 in
theorem rleft_any (id dx dy t dur : Int) (w : World) (ht : OkI t) (hd : OkI dur) :
    Calls Try.prog 29 #[.agg #[.int .i64 id, .int .i64 dx, .int .i64 dy], .int .i64 t, .int .i64 dur] w fun e w' => e = .returned (leftV id dx dy t dur) ∧ Below w.heap.size w w' := by
  obtain ⟨g, hg⟩ : ∃ g, g = w.heap.size := ⟨_, rfl⟩
  obtain ⟨W0, hW0⟩ : ∃ W, W = (w.alloc (.cells #[.int .i64 id, .int .i64 dx, .int .i64 dy] 60)).alloc (.cells #[.int .i64 0, .int .i64 0, .int .i64 0] 60) := ⟨_, rfl⟩
  have B1 : Blk W0 g 60 #[.int .i64 id, .int .i64 dx, .int .i64 dy] := by rw [hW0, hg]; exact (Blk.new w _ _).alloc _
  have B2 : Blk W0 (g + 1) 60 #[.int .i64 0, .int .i64 0, .int .i64 0] := by rw [hW0, hg]; exact Blk.new' _ _ _ _ (by simp)
  have HB := Lib.hid (show Below w.heap.size w W0 by rw [hW0]; exact (below_alloc w _).alloc (by simp) _)
  have HK1 := Lib.hid B1
  have HK2 := Lib.hid B2
  have s0 := B1.cell 0 (v := .int .i64 id) rfl
  have s1 := B1.cell 1 (v := .int .i64 dx) rfl
  have s2 := B1.cell 2 (v := .int .i64 dy) rfl
  have r0 := B2.cell 0 (v := .int .i64 0) rfl
  have r1 := B2.cell 1 (v := .int .i64 0) rfl
  have r2 := B2.cell 2 (v := .int .i64 0) rfl
  have f0 := B2.frozen 0
  have f1 := B2.frozen 1
  have f2 := B2.frozen 2
  have HG := Lib.hid hg
  have HW0 := Lib.hid hW0
  clear B1 B2 hg hW0
  have hw1 : (-9223372036854775808 : Int) ≤ t ∧ t ≤ 9223372036854775807 := okI_in ht
  have hw2 : (-9223372036854775808 : Int) ≤ dur ∧ dur ≤ 9223372036854775807 := okI_in hd
  clear ht hd
  by_cases h1 : dur < 1
  · rw [leftV_no (.inl h1)]
    go_enter Try.func29, Try.ntmps29
    go_upto_region 1 with fail
    rw [← HW0.out, ← HG.out]
    go_wp2
    obtain ⟨V, hV⟩ : ∃ V, V = ((W0.setCell ⟨g + 1, 0, none⟩ (.int .i64 id)).setCell ⟨g + 1, 1, none⟩ (.int .i64 0)).setCell ⟨g + 1, 2, none⟩ (.int .i64 0) := ⟨_, rfl⟩
    rw [← hV]
    have hgw : w.heap.size ≤ g + 1 := by have := HG.out; omega
    have K3 : Blk V (g + 1) 60 #[.int .i64 id, .int .i64 0, .int .i64 0] := by rw [hV]; exact ((HK2.out.set 0 _).set 1 _).set 2 _
    have BV : Below w.heap.size w V := by rw [hV]; exact ((HB.out.setCell (p := ⟨g + 1, 0, none⟩) hgw _).setCell (p := ⟨g + 1, 1, none⟩) hgw _).setCell (p := ⟨g + 1, 2, none⟩) hgw _
    clear hV
    exact bodyPost_ret (results_mid rfl _ _ (g + 1) 0 [.int .i64 id, .int .i64 0, .int .i64 0] _ rfl (blk_rangeS K3) Try.underlying60 rfl (by kernel_rfl)) rfl ⟨rfl, BV⟩
  · by_cases h2 : dur ≤ t
    · rw [leftV_no (.inr h2)]
      go_enter Try.func29, Try.ntmps29
      go_upto_region 1 with fail
      rw [← HW0.out, ← HG.out]
      go_wp2
      obtain ⟨V, hV⟩ : ∃ V, V = ((W0.setCell ⟨g + 1, 0, none⟩ (.int .i64 id)).setCell ⟨g + 1, 1, none⟩ (.int .i64 0)).setCell ⟨g + 1, 2, none⟩ (.int .i64 0) := ⟨_, rfl⟩
      rw [← hV]
      have hgw : w.heap.size ≤ g + 1 := by have := HG.out; omega
      have K3 : Blk V (g + 1) 60 #[.int .i64 id, .int .i64 0, .int .i64 0] := by rw [hV]; exact ((HK2.out.set 0 _).set 1 _).set 2 _
      have BV : Below w.heap.size w V := by rw [hV]; exact ((HB.out.setCell (p := ⟨g + 1, 0, none⟩) hgw _).setCell (p := ⟨g + 1, 1, none⟩) hgw _).setCell (p := ⟨g + 1, 2, none⟩) hgw _
      clear hV
      exact bodyPost_ret (results_mid rfl _ _ (g + 1) 0 [.int .i64 id, .int .i64 0, .int .i64 0] _ rfl (blk_rangeS K3) Try.underlying60 rfl (by kernel_rfl)) rfl ⟨rfl, BV⟩
    · by_cases h3 : t < 1
      · rw [leftV_all h1 h2 h3]
        go_enter Try.func29, Try.ntmps29
        go_upto_region 1 with fail
        rw [← HW0.out, ← HG.out]
        go_wp2
        obtain ⟨V, hV⟩ : ∃ V, V = ((W0.setCell ⟨g + 1, 0, none⟩ (.int .i64 id)).setCell ⟨g + 1, 1, none⟩ (.int .i64 dx)).setCell ⟨g + 1, 2, none⟩ (.int .i64 dy) := ⟨_, rfl⟩
        rw [← hV]
        have hgw : w.heap.size ≤ g + 1 := by have := HG.out; omega
        have K3 : Blk V (g + 1) 60 #[.int .i64 id, .int .i64 dx, .int .i64 dy] := by rw [hV]; exact ((HK2.out.set 0 _).set 1 _).set 2 _
        have BV : Below w.heap.size w V := by rw [hV]; exact ((HB.out.setCell (p := ⟨g + 1, 0, none⟩) hgw _).setCell (p := ⟨g + 1, 1, none⟩) hgw _).setCell (p := ⟨g + 1, 2, none⟩) hgw _
        clear hV
        exact bodyPost_ret (results_mid rfl _ _ (g + 1) 0 [.int .i64 id, .int .i64 dx, .int .i64 dy] _ rfl (blk_rangeS K3) Try.underlying60 rfl (by kernel_rfl)) rfl ⟨rfl, BV⟩
      · rw [leftV_some h1 h2 h3]
        have hwr : IntKind.i64.wrap (dur - t) = dur - t := by rw [IntKind.wrap_i64]; omega
        obtain ⟨px, hpx⟩ : ∃ p, p = pt dx (dur - t) dur := ⟨_, rfl⟩
        obtain ⟨py, hpy⟩ : ∃ p, p = pt dy (dur - t) dur := ⟨_, rfl⟩
        obtain ⟨mx, hmx⟩ : ∃ m, m = st (st dx * st (dur - t)) := ⟨_, rfl⟩
        obtain ⟨my, hmy⟩ : ∃ m, m = st (st dy * st (dur - t)) := ⟨_, rfl⟩
        have RM1 := Lib.hid (rmul_any dx (dur - t) W0)
        have RM2 := Lib.hid (rmul_any dy (dur - t) W0)
        have RD1 : Hid (∃ z : Int, Calls Try.prog 52 #[.int .i64 mx, .int .i64 dur] W0 fun e w' => e = .returned (.tuple #[.int .i64 px, .int .i64 z]) ∧ W0 = w') := by rw [hpx, hmx]; exact ⟨_, rdiv_any _ _ _⟩
        have RD2 : Hid (∃ z : Int, Calls Try.prog 52 #[.int .i64 my, .int .i64 dur] W0 fun e w' => e = .returned (.tuple #[.int .i64 py, .int .i64 z]) ∧ W0 = w') := by rw [hpy, hmy]; exact ⟨_, rdiv_any _ _ _⟩
        rw [← hmx] at RM1
        rw [← hmy] at RM2
        obtain ⟨zx, hzx⟩ := RD1.out
        obtain ⟨zy, hzy⟩ := RD2.out
        have RD1 := Lib.hid hzx
        have RD2 := Lib.hid hzy
        clear hmx hmy hzx hzy
        rw [← hpx, ← hpy]
        clear hpx hpy
        go_enter Try.func29, Try.ntmps29
        go_upto_region 1 with fail
        rw [← HW0.out, ← HG.out]
        go_wp2_with fail
        refine RM1.out.mono ?_
        rintro e w1 ⟨rfl, rfl⟩
        go_wp2_with fail
        refine RD1.out.mono ?_
        rintro e w1 ⟨rfl, rfl⟩
        go_wp2_with fail
        refine RM2.out.mono ?_
        rintro e w1 ⟨rfl, rfl⟩
        go_wp2_with fail
        refine RD2.out.mono ?_
        rintro e w1 ⟨rfl, rfl⟩
        go_wp2
        obtain ⟨V, hV⟩ : ∃ V, V = (((W0.setCell ⟨g + 1, 0, none⟩ (.int .i64 id)).setCell ⟨g + 1, 1, none⟩ (.int .i64 px)).setCell ⟨g + 1, 2, none⟩ (.int .i64 py)) := ⟨_, rfl⟩
        rw [← hV]
        have hgw : w.heap.size ≤ g + 1 := by have := HG.out; omega
        have K3 : Blk V (g + 1) 60 #[.int .i64 id, .int .i64 px, .int .i64 py] := by rw [hV]; exact (((HK2.out.set 0 _).set 1 _).set 2 _)
        have BV : Below w.heap.size w V := by rw [hV]; exact (((HB.out.setCell (p := ⟨g + 1, 0, none⟩) hgw _).setCell (p := ⟨g + 1, 1, none⟩) hgw _).setCell (p := ⟨g + 1, 2, none⟩) hgw _)
        clear hV
        exact bodyPost_ret (results_mid rfl _ _ (g + 1) 0 [.int .i64 id, .int .i64 px, .int .i64 py] _ rfl (blk_rangeS K3) Try.underlying60 rfl (by kernel_rfl)) rfl ⟨rfl, BV⟩
end Go.Proofs.Ytdaohjimfgdmbaa
