/- DressLooks: which looks may be, and how each is marked, is as the document says. -/
import Derived.Test.YtcboeehmhpkodaaDsS1
import Derived.Deep.RegionHeld3
import Derived.OrdersHeld
namespace Go.Proofs.Ytcboeehmhpkodaa
open Go.RowKit M Ds
set_option linter.unusedVariables false
set_option linter.unusedSimpArgs false
set_option linter.unnecessarySimpa false
namespace Ds
set_option maxHeartbeats 20000000 in
set_option maxRecDepth 100000 in
theorem dressLooks_any (k m x y : Int) (w : World) : Calls Try.prog 3 #[.agg #[.int .i64 k, .int .i64 m, .int .i64 x, .int .i64 y]] w fun e w' => e = .returned (.bool true) ∧ Below w.heap.size w w' := by
  have CM := fun W => may_any k m x y W
  have CRM := fun W => rmay_any k m x y W
  generalize mayB k m x y = qm at CM CRM
  have CG := fun W => ghost_any k m x y W
  have CRG := fun W => rghost_any k m x y W
  generalize ghost k = qg at CG CRG
  have CC := fun W => classes_any k m x y W
  have CRC := fun W => rclasses_any k m x y W
  have hml := marks_len k m
  generalize marks k m = MK at CC CRC hml
  have CS : ∀ (A : Option Addr) (c : Nat) (B : Option Addr) (d : Nat) (W : World), At W A (sv MK) → At W B (sv MK) → Calls Try.prog 12 #[.slice A MK.length c, .slice B MK.length d] W fun e w' => e = .returned (.bool true) ∧ ∃ q, w' = W.drewN q := by
    intro A c B d W hA hB
    have h9 := same_any A B MK.length c MK.length d MK MK W rfl rfl (by unfold maxLen; omega) (by unfold maxLen; omega) hA hB
    have hd : decide (MK = MK) = true := by simp
    rw [hd] at h9
    exact h9
  have CM := Lib.hid CM
  have CRM := Lib.hid CRM
  have CG := Lib.hid CG
  have CRG := Lib.hid CRG
  have CC := Lib.hid CC
  have CRC := Lib.hid CRC
  have CS := Lib.hid CS
  have CE0 := fun W => entering_any k m x y W
  have CL0 := fun W => leaving_any k m x y W
  obtain ⟨W0, hW0⟩ : ∃ W, W = w.alloc (.cells #[.int .i64 k, .int .i64 m, .int .i64 x, .int .i64 y] 23) := ⟨_, rfl⟩
  have hb0 : Below w.heap.size w W0 := by rw [hW0]; exact below_alloc w _
  have hl0 : Blk W0 w.heap.size 23 #[.int .i64 k, .int .i64 m, .int .i64 x, .int .i64 y] := by rw [hW0]; exact Blk.new w _ _
  have HW0 := Lib.hid hW0
  have HB0 := Lib.hid hb0
  have HL0 := Lib.hid hl0
  obtain ⟨za, hza⟩ : ∃ z, z = w.heap.size := ⟨_, rfl⟩
  have HZA := Lib.hid hza
  clear hW0 hb0 hl0 hml hza
  by_cases h2 : k = 2
  · have hE : decide (k = 2 ∨ k = 3) = true := by simp; omega
    have hL : decide (k = 5 ∨ k = 6) = false := by simp; omega
    rw [hE] at CE0
    rw [hL] at CL0
    have CE := Lib.hid CE0
    have CL := Lib.hid CL0
    have b2 : (k == 2) = true := by simp; omega
    have b3 : (k == 3) = false := by simp; omega
    have b5 : (k == 5) = false := by simp; omega
    have b6 : (k == 6) = false := by simp; omega
    clear hE hL CE0 CL0 h2
    go_enter Try.func3, Try.ntmps3
    go_wp2_with fail
    rw [← HW0.out]
    (with_reducible refine (awake_any _).mono ?_)
    rintro e w1 ⟨rfl, hb1⟩
    have hl1 := HL0.out.below hb1
    obtain ⟨U, hU⟩ : ∃ U, U = w1.alloc (.cells #[.int .i64 k, .int .i64 m, .int .i64 x, .int .i64 y] 25) := ⟨_, rfl⟩
    have hlu : Blk U za 23 #[.int .i64 k, .int .i64 m, .int .i64 x, .int .i64 y] := by rw [hU, HZA.out]; exact hl1.alloc _
    obtain ⟨zb, hzb⟩ : ∃ z, z = w1.heap.size := ⟨_, rfl⟩
    have hlb : Blk U zb 25 #[.int .i64 k, .int .i64 m, .int .i64 x, .int .i64 y] := by rw [hU, hzb]; exact Blk.new w1 _ _
    have HBU : Hid (Below w.heap.size w U) := by show Below _ _ _; rw [hU]; exact below_more (HB0.out.trans (hb1.mono HB0.out.size)) _
    have e0 := hl1.cell 0 (v := .int .i64 k) rfl
    have e1 := hl1.cell 1 (v := .int .i64 m) rfl
    have e2 := hl1.cell 2 (v := .int .i64 x) rfl
    have e3 := hl1.cell 3 (v := .int .i64 y) rfl
    have HU := Lib.hid hU
    have HZB := Lib.hid hzb
    have f0 := hlb.cell 0 (v := .int .i64 k) rfl
    have f1 := hlb.cell 1 (v := .int .i64 m) rfl
    have f2 := hlb.cell 2 (v := .int .i64 x) rfl
    have f3 := hlb.cell 3 (v := .int .i64 y) rfl
    have g0 := hlu.cell 0 (v := .int .i64 k) rfl
    have g1 := hlu.cell 1 (v := .int .i64 m) rfl
    have g2 := hlu.cell 2 (v := .int .i64 x) rfl
    have g3 := hlu.cell 3 (v := .int .i64 y) rfl
    have kb : zb < U.heap.size := hlb.lt
    have ka : za < U.heap.size := hlu.lt
    clear hU hzb hlu hlb hl1 hb1
    go_upto_region 4 with fail
    rw [← HU.out, ← HZB.out, ← HZA.out]
    clear e0 e1 e2 e3
    have HBB := Below.refl U.heap.size U
    refine wp_region_held_drew (S := (fun w' => w'.cell? ⟨zb, 0, none⟩ = some (.int .i64 k) ∧ w'.cell? ⟨zb, 1, none⟩ = some (.int .i64 m) ∧ w'.cell? ⟨zb, 2, none⟩ = some (.int .i64 x) ∧ w'.cell? ⟨zb, 3, none⟩ = some (.int .i64 y) ∧ w'.cell? ⟨za, 0, none⟩ = some (.int .i64 k) ∧ w'.cell? ⟨za, 1, none⟩ = some (.int .i64 m) ∧ w'.cell? ⟨za, 2, none⟩ = some (.int .i64 x) ∧ w'.cell? ⟨za, 3, none⟩ = some (.int .i64 y) ∧ Below U.heap.size U w')) (by kernel_rfl) ?_ (fun hH0 => ?_)
    · ((try dsimp only); (first | (refine ⟨?_, ?_, ?_, ?_, ?_, ?_, ?_, ?_, ?_⟩ <;> first | with_reducible assumption | with_reducible exact Below_drew HBB | exact Below_drew HBB | exact below_heap HBB rfl rfl rfl rfl | assumption) | go_keep))
    refine wpAnyH_take (i := 0) (oi := Oper.mk (some 7) (Op.load 25 (Operand.tmp 3)) 25 "law.go:47" #[] none) (v := ?_) rfl (by kernel_rfl) (by kernel_rfl) (by kernel_rfl) (fun _ _ _ h => h) (Or.inl ⟨by rfl, ?_⟩) (by assumption) ?_
    rotate_left 1
    · (intro w hSw; (try dsimp only at hSw); go_simp; (try with_reducible rfl))
    try simp only [Act.put, List.setIfInBounds_toArray, List.set_cons_zero, List.set_cons_succ]
    refine wpAnyH_take (i := 2) (oi := Oper.mk (some 9) (Op.load 23 (Operand.tmp 1)) 23 "law.go:47" #[] none) (v := ?_) rfl (by kernel_rfl) (by kernel_rfl) (by kernel_rfl) (fun _ _ _ h => h) (Or.inl ⟨by rfl, ?_⟩) (by assumption) ?_
    rotate_left 1
    · (intro w hSw; (try dsimp only at hSw); go_simp; (try with_reducible rfl))
    try simp only [Act.put, List.setIfInBounds_toArray, List.set_cons_zero, List.set_cons_succ]
    refine wpAnyH_ready (rs := [1]) (by kernel_rfl) (by simp) ?_
    refine AllReadyH.cons (o := Oper.mk (some 8) (Op.call (Call.mk (Callee.value (Operand.func 6)) #[Operand.tmp 7] #[25])) 4 "law.go:47" #[Edge.mk 0 Ground.data] none) rfl (fun K hK => ?_) AllReadyH.nil
    go_simp
    (go_at_call 6; go_split_ands; (with_reducible refine (CM.out _).mono ?_); rintro e9 v1w ⟨rfl, hb⟩; have B : Below U.heap.size U v1w := below_join (by assumption) hb; have r0 := (B.cell (p := ⟨zb, 0, none⟩) kb).trans f0; have r1 := (B.cell (p := ⟨zb, 1, none⟩) kb).trans f1; have r2 := (B.cell (p := ⟨zb, 2, none⟩) kb).trans f2; have r3 := (B.cell (p := ⟨zb, 3, none⟩) kb).trans f3; have r4 := (B.cell (p := ⟨za, 0, none⟩) ka).trans g0; have r5 := (B.cell (p := ⟨za, 1, none⟩) ka).trans g1; have r6 := (B.cell (p := ⟨za, 2, none⟩) ka).trans g2; have r7 := (B.cell (p := ⟨za, 3, none⟩) ka).trans g3; clear hb)
    go_wp2_with fail
    refine hK.out _ _ ?_ (fun hH1 => ?_)
    · ((try dsimp only); (first | (refine ⟨?_, ?_, ?_, ?_, ?_, ?_, ?_, ?_, ?_⟩ <;> first | with_reducible assumption | with_reducible exact Below_drew HBB | exact Below_drew HBB | exact below_heap HBB rfl rfl rfl rfl | assumption) | go_keep))
    clear hK K
    try clear hH0
    try simp only [Act.put, List.setIfInBounds_toArray, List.set_cons_zero, List.set_cons_succ]
    refine wpAnyH_ready (rs := [3]) (by kernel_rfl) (by simp) ?_
    refine AllReadyH.cons (o := Oper.mk (some 10) (Op.call (Call.mk (Callee.value (Operand.func 7)) #[Operand.tmp 9] #[23])) 4 "law.go:47" #[Edge.mk 2 Ground.data, Edge.mk 1 Ground.chain] none) rfl (fun K hK => ?_) AllReadyH.nil
    go_simp
    (go_at_call 7; go_split_ands; (with_reducible refine (CRM.out _).mono ?_); rintro e9 v2w ⟨rfl, hb⟩; have B : Below U.heap.size U v2w := below_join (by assumption) hb; have r0 := (B.cell (p := ⟨zb, 0, none⟩) kb).trans f0; have r1 := (B.cell (p := ⟨zb, 1, none⟩) kb).trans f1; have r2 := (B.cell (p := ⟨zb, 2, none⟩) kb).trans f2; have r3 := (B.cell (p := ⟨zb, 3, none⟩) kb).trans f3; have r4 := (B.cell (p := ⟨za, 0, none⟩) ka).trans g0; have r5 := (B.cell (p := ⟨za, 1, none⟩) ka).trans g1; have r6 := (B.cell (p := ⟨za, 2, none⟩) ka).trans g2; have r7 := (B.cell (p := ⟨za, 3, none⟩) ka).trans g3; clear hb)
    go_wp2_with fail
    refine hK.out _ _ ?_ (fun hH2 => ?_)
    · ((try dsimp only); (first | (refine ⟨?_, ?_, ?_, ?_, ?_, ?_, ?_, ?_, ?_⟩ <;> first | with_reducible assumption | with_reducible exact Below_drew HBB | exact Below_drew HBB | exact below_heap HBB rfl rfl rfl rfl | assumption) | go_keep))
    clear hK K
    try clear hH1
    try simp only [Act.put, List.setIfInBounds_toArray, List.set_cons_zero, List.set_cons_succ]
    refine wpAnyH_take (i := 4) (oi := Oper.mk (some 11) (Op.binOp BinOp.eql 4 (Operand.tmp 8) (Operand.tmp 10) 4) 4 "law.go:47" #[Edge.mk 1 Ground.data, Edge.mk 3 Ground.data] none) (v := ?_) rfl (by kernel_rfl) (by kernel_rfl) (by kernel_rfl) (fun _ _ _ h => h) (Or.inl ⟨by rfl, ?_⟩) (by assumption) ?_
    rotate_left 1
    · (intro w hSw; (try dsimp only at hSw); go_simp; (try with_reducible rfl))
    try simp only [Act.put, List.setIfInBounds_toArray, List.set_cons_zero, List.set_cons_succ]
    refine wpAnyH_take (i := 5) (oi := Oper.mk (some 12) (Op.move (Operand.tmp 11)) 4 "law.go:47" #[Edge.mk 4 Ground.data, Edge.mk 3 Ground.chain] none) (v := ?_) rfl (by kernel_rfl) (by kernel_rfl) (by kernel_rfl) (fun _ _ _ h => h) (Or.inl ⟨by rfl, ?_⟩) (by assumption) ?_
    rotate_left 1
    · (intro w hSw; (try dsimp only at hSw); go_simp; (try with_reducible rfl))
    try simp only [Act.put, List.setIfInBounds_toArray, List.set_cons_zero, List.set_cons_succ]
    refine wpAnyH_take (i := 6) (oi := Oper.mk (some 13) (Op.load 25 (Operand.tmp 3)) 25 "law.go:47" #[Edge.mk 5 Ground.guard] (some (5, true))) (v := ?_) rfl (by kernel_rfl) (by kernel_rfl) (by kernel_rfl) (fun _ _ _ h => h) (Or.inl ⟨by rfl, ?_⟩) (by assumption) ?_
    rotate_left 1
    · (intro w hSw; (try dsimp only at hSw); go_simp; (try with_reducible rfl))
    try simp only [Act.put, List.setIfInBounds_toArray, List.set_cons_zero, List.set_cons_succ]
    refine wpAnyH_take (i := 8) (oi := Oper.mk (some 15) (Op.load 23 (Operand.tmp 1)) 23 "law.go:47" #[Edge.mk 5 Ground.guard] (some (5, true))) (v := ?_) rfl (by kernel_rfl) (by kernel_rfl) (by kernel_rfl) (fun _ _ _ h => h) (Or.inl ⟨by rfl, ?_⟩) (by assumption) ?_
    rotate_left 1
    · (intro w hSw; (try dsimp only at hSw); go_simp; (try with_reducible rfl))
    try simp only [Act.put, List.setIfInBounds_toArray, List.set_cons_zero, List.set_cons_succ]
    refine wpAnyH_ready (rs := [7]) (by kernel_rfl) (by simp) ?_
    refine AllReadyH.cons (o := Oper.mk (some 14) (Op.call (Call.mk (Callee.value (Operand.func 8)) #[Operand.tmp 13] #[25])) 4 "law.go:47" #[Edge.mk 6 Ground.data, Edge.mk 5 Ground.chain, Edge.mk 5 Ground.guard] (some (5, true))) rfl (fun K hK => ?_) AllReadyH.nil
    go_simp
    (go_at_call 8; go_split_ands; (with_reducible refine (CG.out _).mono ?_); rintro e9 v3w ⟨rfl, hb⟩; have B : Below U.heap.size U v3w := below_join (by assumption) hb; have r0 := (B.cell (p := ⟨zb, 0, none⟩) kb).trans f0; have r1 := (B.cell (p := ⟨zb, 1, none⟩) kb).trans f1; have r2 := (B.cell (p := ⟨zb, 2, none⟩) kb).trans f2; have r3 := (B.cell (p := ⟨zb, 3, none⟩) kb).trans f3; have r4 := (B.cell (p := ⟨za, 0, none⟩) ka).trans g0; have r5 := (B.cell (p := ⟨za, 1, none⟩) ka).trans g1; have r6 := (B.cell (p := ⟨za, 2, none⟩) ka).trans g2; have r7 := (B.cell (p := ⟨za, 3, none⟩) ka).trans g3; clear hb)
    go_wp2_with fail
    refine hK.out _ _ ?_ (fun hH3 => ?_)
    · ((try dsimp only); (first | (refine ⟨?_, ?_, ?_, ?_, ?_, ?_, ?_, ?_, ?_⟩ <;> first | with_reducible assumption | with_reducible exact Below_drew HBB | exact Below_drew HBB | exact below_heap HBB rfl rfl rfl rfl | assumption) | go_keep))
    clear hK K
    try clear hH2
    try simp only [Act.put, List.setIfInBounds_toArray, List.set_cons_zero, List.set_cons_succ]
    refine wpAnyH_ready (rs := [9]) (by kernel_rfl) (by simp) ?_
    refine AllReadyH.cons (o := Oper.mk (some 16) (Op.call (Call.mk (Callee.value (Operand.func 9)) #[Operand.tmp 15] #[23])) 4 "law.go:47" #[Edge.mk 8 Ground.data, Edge.mk 7 Ground.chain, Edge.mk 5 Ground.guard] (some (5, true))) rfl (fun K hK => ?_) AllReadyH.nil
    go_simp
    (go_at_call 9; go_split_ands; (with_reducible refine (CRG.out _).mono ?_); rintro e9 v4w ⟨rfl, hb⟩; have B : Below U.heap.size U v4w := below_join (by assumption) hb; have r0 := (B.cell (p := ⟨zb, 0, none⟩) kb).trans f0; have r1 := (B.cell (p := ⟨zb, 1, none⟩) kb).trans f1; have r2 := (B.cell (p := ⟨zb, 2, none⟩) kb).trans f2; have r3 := (B.cell (p := ⟨zb, 3, none⟩) kb).trans f3; have r4 := (B.cell (p := ⟨za, 0, none⟩) ka).trans g0; have r5 := (B.cell (p := ⟨za, 1, none⟩) ka).trans g1; have r6 := (B.cell (p := ⟨za, 2, none⟩) ka).trans g2; have r7 := (B.cell (p := ⟨za, 3, none⟩) ka).trans g3; clear hb)
    go_wp2_with fail
    refine hK.out _ _ ?_ (fun hH4 => ?_)
    · ((try dsimp only); (first | (refine ⟨?_, ?_, ?_, ?_, ?_, ?_, ?_, ?_, ?_⟩ <;> first | with_reducible assumption | with_reducible exact Below_drew HBB | exact Below_drew HBB | exact below_heap HBB rfl rfl rfl rfl | assumption) | go_keep))
    clear hK K
    try clear hH3
    try simp only [Act.put, List.setIfInBounds_toArray, List.set_cons_zero, List.set_cons_succ]
    refine wpAnyH_take (i := 10) (oi := Oper.mk (some 17) (Op.binOp BinOp.eql 4 (Operand.tmp 14) (Operand.tmp 16) 4) 4 "law.go:47" #[Edge.mk 7 Ground.data, Edge.mk 9 Ground.data, Edge.mk 5 Ground.guard] (some (5, true))) (v := ?_) rfl (by kernel_rfl) (by kernel_rfl) (by kernel_rfl) (fun _ _ _ h => h) (Or.inl ⟨by rfl, ?_⟩) (by assumption) ?_
    rotate_left 1
    · (intro w hSw; (try dsimp only at hSw); go_simp; (try with_reducible rfl))
    try simp only [Act.put, List.setIfInBounds_toArray, List.set_cons_zero, List.set_cons_succ]
    refine wpAnyH_take (i := 11) (oi := Oper.mk (some 18) (Op.pick (Operand.tmp 12) (Operand.tmp 17) (Operand.const (Value.bool false))) 4 "law.go:47" #[Edge.mk 5 Ground.data, Edge.mk 10 Ground.data] none) (v := ?_) rfl (by kernel_rfl) (by kernel_rfl) (by kernel_rfl) (fun _ _ _ h => h) (Or.inl ⟨by rfl, ?_⟩) (by assumption) ?_
    rotate_left 1
    · (intro w hSw; (try dsimp only at hSw); go_simp; (try with_reducible rfl))
    try simp only [Act.put, List.setIfInBounds_toArray, List.set_cons_zero, List.set_cons_succ]
    refine wpAnyH_take (i := 12) (oi := Oper.mk (some 19) (Op.move (Operand.tmp 18)) 4 "law.go:47" #[Edge.mk 11 Ground.data, Edge.mk 9 Ground.chain] none) (v := ?_) rfl (by kernel_rfl) (by kernel_rfl) (by kernel_rfl) (fun _ _ _ h => h) (Or.inl ⟨by rfl, ?_⟩) (by assumption) ?_
    rotate_left 1
    · (intro w hSw; (try dsimp only at hSw); go_simp; (try with_reducible rfl))
    try simp only [Act.put, List.setIfInBounds_toArray, List.set_cons_zero, List.set_cons_succ]
    refine wpAnyH_take (i := 13) (oi := Oper.mk (some 20) (Op.load 25 (Operand.tmp 3)) 25 "law.go:47" #[Edge.mk 12 Ground.guard] (some (12, true))) (v := ?_) rfl (by kernel_rfl) (by kernel_rfl) (by kernel_rfl) (fun _ _ _ h => h) (Or.inl ⟨by rfl, ?_⟩) (by assumption) ?_
    rotate_left 1
    · (intro w hSw; (try dsimp only at hSw); go_simp; (try with_reducible rfl))
    try simp only [Act.put, List.setIfInBounds_toArray, List.set_cons_zero, List.set_cons_succ]
    refine wpAnyH_take (i := 15) (oi := Oper.mk (some 22) (Op.fieldAddr 23 (Operand.tmp 1) 0) 0 "law.go:47" #[Edge.mk 12 Ground.guard] (some (12, true))) (v := ?_) rfl (by kernel_rfl) (by kernel_rfl) (by kernel_rfl) (fun _ _ _ h => h) (Or.inl ⟨by rfl, ?_⟩) (by assumption) ?_
    rotate_left 1
    · (intro w hSw; (try dsimp only at hSw); go_simp; (try with_reducible rfl))
    try simp only [Act.put, List.setIfInBounds_toArray, List.set_cons_zero, List.set_cons_succ]
    refine wpAnyH_take (i := 16) (oi := Oper.mk (some 23) (Op.load 3 (Operand.tmp 22)) 3 "law.go:47" #[Edge.mk 15 Ground.data, Edge.mk 12 Ground.guard] (some (12, true))) (v := ?_) rfl (by kernel_rfl) (by kernel_rfl) (by kernel_rfl) (fun _ _ _ h => h) (Or.inl ⟨by rfl, ?_⟩) (by assumption) ?_
    rotate_left 1
    · (intro w hSw; (try dsimp only at hSw); go_simp; (try with_reducible rfl))
    try simp only [Act.put, List.setIfInBounds_toArray, List.set_cons_zero, List.set_cons_succ]
    refine wpAnyH_take (i := 17) (oi := Oper.mk (some 24) (Op.binOp BinOp.eql 3 (Operand.tmp 23) (Operand.const (Value.int IntKind.i64 2)) 3) 4 "law.go:47" #[Edge.mk 16 Ground.data, Edge.mk 12 Ground.guard] (some (12, true))) (v := ?_) rfl (by kernel_rfl) (by kernel_rfl) (by kernel_rfl) (fun _ _ _ h => h) (Or.inl ⟨by rfl, ?_⟩) (by assumption) ?_
    rotate_left 1
    · (intro w hSw; (try dsimp only at hSw); go_simp; (try with_reducible rfl))
    try simp only [Act.put, List.setIfInBounds_toArray, List.set_cons_zero, List.set_cons_succ]
    refine wpAnyH_ready (rs := [14]) (by kernel_rfl) (by simp) ?_
    refine AllReadyH.cons (o := Oper.mk (some 21) (Op.call (Call.mk (Callee.value (Operand.func 10)) #[Operand.tmp 20] #[25])) 4 "law.go:47" #[Edge.mk 13 Ground.data, Edge.mk 12 Ground.chain, Edge.mk 12 Ground.guard] (some (12, true))) rfl (fun K hK => ?_) AllReadyH.nil
    go_simp
    (go_at_call 10; go_split_ands; (with_reducible refine (CE.out _).mono ?_); rintro e9 v5w ⟨rfl, hb⟩; have B : Below U.heap.size U v5w := below_join (by assumption) hb; have r0 := (B.cell (p := ⟨zb, 0, none⟩) kb).trans f0; have r1 := (B.cell (p := ⟨zb, 1, none⟩) kb).trans f1; have r2 := (B.cell (p := ⟨zb, 2, none⟩) kb).trans f2; have r3 := (B.cell (p := ⟨zb, 3, none⟩) kb).trans f3; have r4 := (B.cell (p := ⟨za, 0, none⟩) ka).trans g0; have r5 := (B.cell (p := ⟨za, 1, none⟩) ka).trans g1; have r6 := (B.cell (p := ⟨za, 2, none⟩) ka).trans g2; have r7 := (B.cell (p := ⟨za, 3, none⟩) ka).trans g3; clear hb)
    go_wp2_with fail
    refine hK.out _ _ ?_ (fun hH5 => ?_)
    · ((try dsimp only); (first | (refine ⟨?_, ?_, ?_, ?_, ?_, ?_, ?_, ?_, ?_⟩ <;> first | with_reducible assumption | with_reducible exact Below_drew HBB | exact Below_drew HBB | exact below_heap HBB rfl rfl rfl rfl | assumption) | go_keep))
    clear hK K
    try clear hH4
    try simp only [Act.put, List.setIfInBounds_toArray, List.set_cons_zero, List.set_cons_succ]
    refine wpAnyH_take (i := 18) (oi := Oper.mk (some 25) (Op.move (Operand.tmp 24)) 4 "law.go:47" #[Edge.mk 17 Ground.data, Edge.mk 14 Ground.chain, Edge.mk 12 Ground.guard] (some (12, true))) (v := ?_) rfl (by kernel_rfl) (by kernel_rfl) (by kernel_rfl) (fun _ _ _ h => h) (Or.inl ⟨by rfl, ?_⟩) (by assumption) ?_
    rotate_left 1
    · (intro w hSw; (try dsimp only at hSw); go_simp; (try with_reducible rfl))
    try simp only [Act.put, List.setIfInBounds_toArray, List.set_cons_zero, List.set_cons_succ]
    refine wpAnyH_take (i := 19) (oi := Oper.mk (some 26) (Op.fieldAddr 23 (Operand.tmp 1) 0) 0 "law.go:47" #[Edge.mk 18 Ground.guard] (some (18, false))) (v := undef) rfl (by kernel_rfl) (by kernel_rfl) (by kernel_rfl) (fun _ _ _ h => h) (Or.inr ⟨by rfl, rfl⟩) (by assumption) ?_
    try simp only [Act.put, List.setIfInBounds_toArray, List.set_cons_zero, List.set_cons_succ]
    refine wpAnyH_take (i := 20) (oi := Oper.mk (some 27) (Op.load 3 (Operand.tmp 26)) 3 "law.go:47" #[Edge.mk 19 Ground.data, Edge.mk 18 Ground.guard] (some (18, false))) (v := undef) rfl (by kernel_rfl) (by kernel_rfl) (by kernel_rfl) (fun _ _ _ h => h) (Or.inr ⟨by rfl, rfl⟩) (by assumption) ?_
    try simp only [Act.put, List.setIfInBounds_toArray, List.set_cons_zero, List.set_cons_succ]
    refine wpAnyH_take (i := 21) (oi := Oper.mk (some 28) (Op.binOp BinOp.eql 3 (Operand.tmp 27) (Operand.const (Value.int IntKind.i64 3)) 3) 4 "law.go:47" #[Edge.mk 20 Ground.data, Edge.mk 18 Ground.guard] (some (18, false))) (v := undef) rfl (by kernel_rfl) (by kernel_rfl) (by kernel_rfl) (fun _ _ _ h => h) (Or.inr ⟨by rfl, rfl⟩) (by assumption) ?_
    try simp only [Act.put, List.setIfInBounds_toArray, List.set_cons_zero, List.set_cons_succ]
    refine wpAnyH_take (i := 22) (oi := Oper.mk (some 29) (Op.pick (Operand.tmp 25) (Operand.const (Value.bool true)) (Operand.tmp 28)) 4 "law.go:47" #[Edge.mk 18 Ground.data, Edge.mk 21 Ground.data, Edge.mk 12 Ground.guard] (some (12, true))) (v := ?_) rfl (by kernel_rfl) (by kernel_rfl) (by kernel_rfl) (fun _ _ _ h => h) (Or.inl ⟨by rfl, ?_⟩) (by assumption) ?_
    rotate_left 1
    · (intro w hSw; (try dsimp only at hSw); go_simp; (try with_reducible rfl))
    try simp only [Act.put, List.setIfInBounds_toArray, List.set_cons_zero, List.set_cons_succ]
    refine wpAnyH_take (i := 23) (oi := Oper.mk (some 30) (Op.binOp BinOp.eql 4 (Operand.tmp 21) (Operand.tmp 29) 4) 4 "law.go:47" #[Edge.mk 14 Ground.data, Edge.mk 22 Ground.data, Edge.mk 12 Ground.guard] (some (12, true))) (v := ?_) rfl (by kernel_rfl) (by kernel_rfl) (by kernel_rfl) (fun _ _ _ h => h) (Or.inl ⟨by rfl, ?_⟩) (by assumption) ?_
    rotate_left 1
    · (intro w hSw; (try dsimp only at hSw); go_simp; (try with_reducible rfl))
    try simp only [Act.put, List.setIfInBounds_toArray, List.set_cons_zero, List.set_cons_succ]
    refine wpAnyH_take (i := 24) (oi := Oper.mk (some 31) (Op.pick (Operand.tmp 19) (Operand.tmp 30) (Operand.const (Value.bool false))) 4 "law.go:47" #[Edge.mk 12 Ground.data, Edge.mk 23 Ground.data] none) (v := ?_) rfl (by kernel_rfl) (by kernel_rfl) (by kernel_rfl) (fun _ _ _ h => h) (Or.inl ⟨by rfl, ?_⟩) (by assumption) ?_
    rotate_left 1
    · (intro w hSw; (try dsimp only at hSw); go_simp; (try with_reducible rfl))
    try simp only [Act.put, List.setIfInBounds_toArray, List.set_cons_zero, List.set_cons_succ]
    refine wpAnyH_take (i := 25) (oi := Oper.mk (some 32) (Op.move (Operand.tmp 31)) 4 "law.go:47" #[Edge.mk 24 Ground.data, Edge.mk 18 Ground.chain] none) (v := ?_) rfl (by kernel_rfl) (by kernel_rfl) (by kernel_rfl) (fun _ _ _ h => h) (Or.inl ⟨by rfl, ?_⟩) (by assumption) ?_
    rotate_left 1
    · (intro w hSw; (try dsimp only at hSw); go_simp; (try with_reducible rfl))
    try simp only [Act.put, List.setIfInBounds_toArray, List.set_cons_zero, List.set_cons_succ]
    refine wpAnyH_take (i := 26) (oi := Oper.mk (some 33) (Op.load 25 (Operand.tmp 3)) 25 "law.go:47" #[Edge.mk 25 Ground.guard] (some (25, true))) (v := ?_) rfl (by kernel_rfl) (by kernel_rfl) (by kernel_rfl) (fun _ _ _ h => h) (Or.inl ⟨by rfl, ?_⟩) (by assumption) ?_
    rotate_left 1
    · (intro w hSw; (try dsimp only at hSw); go_simp; (try with_reducible rfl))
    try simp only [Act.put, List.setIfInBounds_toArray, List.set_cons_zero, List.set_cons_succ]
    refine wpAnyH_take (i := 28) (oi := Oper.mk (some 35) (Op.fieldAddr 23 (Operand.tmp 1) 0) 0 "law.go:47" #[Edge.mk 25 Ground.guard] (some (25, true))) (v := ?_) rfl (by kernel_rfl) (by kernel_rfl) (by kernel_rfl) (fun _ _ _ h => h) (Or.inl ⟨by rfl, ?_⟩) (by assumption) ?_
    rotate_left 1
    · (intro w hSw; (try dsimp only at hSw); go_simp; (try with_reducible rfl))
    try simp only [Act.put, List.setIfInBounds_toArray, List.set_cons_zero, List.set_cons_succ]
    refine wpAnyH_take (i := 29) (oi := Oper.mk (some 36) (Op.load 3 (Operand.tmp 35)) 3 "law.go:47" #[Edge.mk 28 Ground.data, Edge.mk 25 Ground.guard] (some (25, true))) (v := ?_) rfl (by kernel_rfl) (by kernel_rfl) (by kernel_rfl) (fun _ _ _ h => h) (Or.inl ⟨by rfl, ?_⟩) (by assumption) ?_
    rotate_left 1
    · (intro w hSw; (try dsimp only at hSw); go_simp; (try with_reducible rfl))
    try simp only [Act.put, List.setIfInBounds_toArray, List.set_cons_zero, List.set_cons_succ]
    refine wpAnyH_take (i := 30) (oi := Oper.mk (some 37) (Op.binOp BinOp.eql 3 (Operand.tmp 36) (Operand.const (Value.int IntKind.i64 5)) 3) 4 "law.go:47" #[Edge.mk 29 Ground.data, Edge.mk 25 Ground.guard] (some (25, true))) (v := ?_) rfl (by kernel_rfl) (by kernel_rfl) (by kernel_rfl) (fun _ _ _ h => h) (Or.inl ⟨by rfl, ?_⟩) (by assumption) ?_
    rotate_left 1
    · (intro w hSw; (try dsimp only at hSw); go_simp; (try with_reducible rfl))
    try simp only [Act.put, List.setIfInBounds_toArray, List.set_cons_zero, List.set_cons_succ]
    refine wpAnyH_ready (rs := [27]) (by kernel_rfl) (by simp) ?_
    refine AllReadyH.cons (o := Oper.mk (some 34) (Op.call (Call.mk (Callee.value (Operand.func 11)) #[Operand.tmp 33] #[25])) 4 "law.go:47" #[Edge.mk 26 Ground.data, Edge.mk 25 Ground.chain, Edge.mk 25 Ground.guard] (some (25, true))) rfl (fun K hK => ?_) AllReadyH.nil
    go_simp
    (go_at_call 11; go_split_ands; (with_reducible refine (CL.out _).mono ?_); rintro e9 v6w ⟨rfl, hb⟩; have B : Below U.heap.size U v6w := below_join (by assumption) hb; have r0 := (B.cell (p := ⟨zb, 0, none⟩) kb).trans f0; have r1 := (B.cell (p := ⟨zb, 1, none⟩) kb).trans f1; have r2 := (B.cell (p := ⟨zb, 2, none⟩) kb).trans f2; have r3 := (B.cell (p := ⟨zb, 3, none⟩) kb).trans f3; have r4 := (B.cell (p := ⟨za, 0, none⟩) ka).trans g0; have r5 := (B.cell (p := ⟨za, 1, none⟩) ka).trans g1; have r6 := (B.cell (p := ⟨za, 2, none⟩) ka).trans g2; have r7 := (B.cell (p := ⟨za, 3, none⟩) ka).trans g3; clear hb)
    go_wp2_with fail
    refine hK.out _ _ ?_ (fun hH6 => ?_)
    · ((try dsimp only); (first | (refine ⟨?_, ?_, ?_, ?_, ?_, ?_, ?_, ?_, ?_⟩ <;> first | with_reducible assumption | with_reducible exact Below_drew HBB | exact Below_drew HBB | exact below_heap HBB rfl rfl rfl rfl | assumption) | go_keep))
    clear hK K
    try clear hH5
    try simp only [Act.put, List.setIfInBounds_toArray, List.set_cons_zero, List.set_cons_succ]
    refine wpAnyH_take (i := 31) (oi := Oper.mk (some 38) (Op.move (Operand.tmp 37)) 4 "law.go:47" #[Edge.mk 30 Ground.data, Edge.mk 27 Ground.chain, Edge.mk 25 Ground.guard] (some (25, true))) (v := ?_) rfl (by kernel_rfl) (by kernel_rfl) (by kernel_rfl) (fun _ _ _ h => h) (Or.inl ⟨by rfl, ?_⟩) (by assumption) ?_
    rotate_left 1
    · (intro w hSw; (try dsimp only at hSw); go_simp; (try with_reducible rfl))
    try simp only [Act.put, List.setIfInBounds_toArray, List.set_cons_zero, List.set_cons_succ]
    refine wpAnyH_take (i := 32) (oi := Oper.mk (some 39) (Op.fieldAddr 23 (Operand.tmp 1) 0) 0 "law.go:47" #[Edge.mk 31 Ground.guard] (some (31, false))) (v := ?_) rfl (by kernel_rfl) (by kernel_rfl) (by kernel_rfl) (fun _ _ _ h => h) (Or.inl ⟨by rfl, ?_⟩) (by assumption) ?_
    rotate_left 1
    · (intro w hSw; (try dsimp only at hSw); go_simp; (try with_reducible rfl))
    try simp only [Act.put, List.setIfInBounds_toArray, List.set_cons_zero, List.set_cons_succ]
    refine wpAnyH_take (i := 33) (oi := Oper.mk (some 40) (Op.load 3 (Operand.tmp 39)) 3 "law.go:47" #[Edge.mk 32 Ground.data, Edge.mk 31 Ground.guard] (some (31, false))) (v := ?_) rfl (by kernel_rfl) (by kernel_rfl) (by kernel_rfl) (fun _ _ _ h => h) (Or.inl ⟨by rfl, ?_⟩) (by assumption) ?_
    rotate_left 1
    · (intro w hSw; (try dsimp only at hSw); go_simp; (try with_reducible rfl))
    try simp only [Act.put, List.setIfInBounds_toArray, List.set_cons_zero, List.set_cons_succ]
    refine wpAnyH_take (i := 34) (oi := Oper.mk (some 41) (Op.binOp BinOp.eql 3 (Operand.tmp 40) (Operand.const (Value.int IntKind.i64 6)) 3) 4 "law.go:47" #[Edge.mk 33 Ground.data, Edge.mk 31 Ground.guard] (some (31, false))) (v := ?_) rfl (by kernel_rfl) (by kernel_rfl) (by kernel_rfl) (fun _ _ _ h => h) (Or.inl ⟨by rfl, ?_⟩) (by assumption) ?_
    rotate_left 1
    · (intro w hSw; (try dsimp only at hSw); go_simp; (try with_reducible rfl))
    try simp only [Act.put, List.setIfInBounds_toArray, List.set_cons_zero, List.set_cons_succ]
    refine wpAnyH_take (i := 35) (oi := Oper.mk (some 42) (Op.pick (Operand.tmp 38) (Operand.const (Value.bool true)) (Operand.tmp 41)) 4 "law.go:47" #[Edge.mk 31 Ground.data, Edge.mk 34 Ground.data, Edge.mk 25 Ground.guard] (some (25, true))) (v := ?_) rfl (by kernel_rfl) (by kernel_rfl) (by kernel_rfl) (fun _ _ _ h => h) (Or.inl ⟨by rfl, ?_⟩) (by assumption) ?_
    rotate_left 1
    · (intro w hSw; (try dsimp only at hSw); go_simp; (try with_reducible rfl))
    try simp only [Act.put, List.setIfInBounds_toArray, List.set_cons_zero, List.set_cons_succ]
    refine wpAnyH_take (i := 36) (oi := Oper.mk (some 43) (Op.binOp BinOp.eql 4 (Operand.tmp 34) (Operand.tmp 42) 4) 4 "law.go:47" #[Edge.mk 27 Ground.data, Edge.mk 35 Ground.data, Edge.mk 25 Ground.guard] (some (25, true))) (v := ?_) rfl (by kernel_rfl) (by kernel_rfl) (by kernel_rfl) (fun _ _ _ h => h) (Or.inl ⟨by rfl, ?_⟩) (by assumption) ?_
    rotate_left 1
    · (intro w hSw; (try dsimp only at hSw); go_simp; (try with_reducible rfl))
    try simp only [Act.put, List.setIfInBounds_toArray, List.set_cons_zero, List.set_cons_succ]
    refine wpAnyH_take (i := 37) (oi := Oper.mk (some 44) (Op.pick (Operand.tmp 32) (Operand.tmp 43) (Operand.const (Value.bool false))) 4 "law.go:47" #[Edge.mk 25 Ground.data, Edge.mk 36 Ground.data] none) (v := ?_) rfl (by kernel_rfl) (by kernel_rfl) (by kernel_rfl) (fun _ _ _ h => h) (Or.inl ⟨by rfl, ?_⟩) (by assumption) ?_
    rotate_left 1
    · (intro w hSw; (try dsimp only at hSw); go_simp; (try with_reducible rfl))
    try simp only [Act.put, List.setIfInBounds_toArray, List.set_cons_zero, List.set_cons_succ]
    refine wpAnyH_take (i := 38) (oi := Oper.mk (some 45) (Op.move (Operand.tmp 44)) 4 "law.go:47" #[Edge.mk 37 Ground.data, Edge.mk 31 Ground.chain] none) (v := ?_) rfl (by kernel_rfl) (by kernel_rfl) (by kernel_rfl) (fun _ _ _ h => h) (Or.inl ⟨by rfl, ?_⟩) (by assumption) ?_
    rotate_left 1
    · (intro w hSw; (try dsimp only at hSw); go_simp; (try with_reducible rfl))
    try simp only [Act.put, List.setIfInBounds_toArray, List.set_cons_zero, List.set_cons_succ]
    refine wpAnyH_take (i := 39) (oi := Oper.mk (some 46) (Op.load 25 (Operand.tmp 3)) 25 "law.go:47" #[Edge.mk 38 Ground.guard] (some (38, true))) (v := ?_) rfl (by kernel_rfl) (by kernel_rfl) (by kernel_rfl) (fun _ _ _ h => h) (Or.inl ⟨by rfl, ?_⟩) (by assumption) ?_
    rotate_left 1
    · (intro w hSw; (try dsimp only at hSw); go_simp; (try with_reducible rfl))
    try simp only [Act.put, List.setIfInBounds_toArray, List.set_cons_zero, List.set_cons_succ]
    refine wpAnyH_take (i := 41) (oi := Oper.mk (some 48) (Op.load 23 (Operand.tmp 1)) 23 "law.go:47" #[Edge.mk 38 Ground.guard] (some (38, true))) (v := ?_) rfl (by kernel_rfl) (by kernel_rfl) (by kernel_rfl) (fun _ _ _ h => h) (Or.inl ⟨by rfl, ?_⟩) (by assumption) ?_
    rotate_left 1
    · (intro w hSw; (try dsimp only at hSw); go_simp; (try with_reducible rfl))
    try simp only [Act.put, List.setIfInBounds_toArray, List.set_cons_zero, List.set_cons_succ]
    refine wpAnyH_ready (rs := [40]) (by kernel_rfl) (by simp) ?_
    refine AllReadyH.cons (o := Oper.mk (some 47) (Op.call (Call.mk (Callee.value (Operand.func 13)) #[Operand.tmp 46] #[25])) 28 "law.go:47" #[Edge.mk 39 Ground.data, Edge.mk 38 Ground.chain, Edge.mk 38 Ground.guard] (some (38, true))) rfl (fun K hK => ?_) AllReadyH.nil
    go_simp
    (go_at_call 13; go_split_ands; (with_reducible refine (CC.out _).mono ?_); rintro e9 v7w ⟨v7, rfl, ho, hb⟩; obtain ⟨A7, c7, rfl, hc7, hm7, hat⟩ := at_of_own' ho; have HAT7 := Lib.hid hat; have B : Below U.heap.size U v7w := below_join (by assumption) hb; have r0 := (B.cell (p := ⟨zb, 0, none⟩) kb).trans f0; have r1 := (B.cell (p := ⟨zb, 1, none⟩) kb).trans f1; have r2 := (B.cell (p := ⟨zb, 2, none⟩) kb).trans f2; have r3 := (B.cell (p := ⟨zb, 3, none⟩) kb).trans f3; have r4 := (B.cell (p := ⟨za, 0, none⟩) ka).trans g0; have r5 := (B.cell (p := ⟨za, 1, none⟩) ka).trans g1; have r6 := (B.cell (p := ⟨za, 2, none⟩) ka).trans g2; have r7 := (B.cell (p := ⟨za, 3, none⟩) ka).trans g3; have HBw := Lib.hid B; clear hb ho hat)
    go_wp2_with fail
    refine hK.out _ _ ?_ (fun hH7 => ?_)
    · ((try dsimp only); (first | (refine ⟨?_, ?_, ?_, ?_, ?_, ?_, ?_, ?_, ?_⟩ <;> first | with_reducible assumption | with_reducible exact Below_drew HBB | exact Below_drew HBB | exact below_heap HBB rfl rfl rfl rfl | assumption) | go_keep))
    clear hK K
    try clear hH6
    try simp only [Act.put, List.setIfInBounds_toArray, List.set_cons_zero, List.set_cons_succ]
    refine wpAnyH_ready (rs := [42]) (by kernel_rfl) (by simp) ?_
    refine AllReadyH.cons (o := Oper.mk (some 49) (Op.call (Call.mk (Callee.value (Operand.func 14)) #[Operand.tmp 48] #[23])) 28 "law.go:47" #[Edge.mk 41 Ground.data, Edge.mk 40 Ground.chain, Edge.mk 38 Ground.guard] (some (38, true))) rfl (fun K hK => ?_) AllReadyH.nil
    go_simp
    (go_at_call 14; go_split_ands; (with_reducible refine (CRC.out _).mono ?_); rintro e9 v8w ⟨v8, rfl, ho, hb⟩; obtain ⟨A8, c8, rfl, hc8, hm8, hat⟩ := at_of_own' ho; have HAT8 := Lib.hid hat; have B : Below U.heap.size U v8w := below_join (by assumption) hb; have r0 := (B.cell (p := ⟨zb, 0, none⟩) kb).trans f0; have r1 := (B.cell (p := ⟨zb, 1, none⟩) kb).trans f1; have r2 := (B.cell (p := ⟨zb, 2, none⟩) kb).trans f2; have r3 := (B.cell (p := ⟨zb, 3, none⟩) kb).trans f3; have r4 := (B.cell (p := ⟨za, 0, none⟩) ka).trans g0; have r5 := (B.cell (p := ⟨za, 1, none⟩) ka).trans g1; have r6 := (B.cell (p := ⟨za, 2, none⟩) ka).trans g2; have r7 := (B.cell (p := ⟨za, 3, none⟩) ka).trans g3; have HATM := Lib.hid (HAT7.out.below (show Below v7w.heap.size v7w v8w from below_join (by first | exact Below.refl _ _ | exact Below_drew (Below.refl _ _)) hb)); have HBw := Lib.hid B; clear hb ho hat)
    go_wp2_with fail
    refine hK.out _ _ ?_ (fun hH8 => ?_)
    · ((try dsimp only); (first | (refine ⟨?_, ?_, ?_, ?_, ?_, ?_, ?_, ?_, ?_⟩ <;> first | with_reducible assumption | with_reducible exact Below_drew HBB | exact Below_drew HBB | exact below_heap HBB rfl rfl rfl rfl | assumption) | go_keep))
    clear hK K
    try clear hH7
    try simp only [Act.put, List.setIfInBounds_toArray, List.set_cons_zero, List.set_cons_succ]
    refine wpAnyH_ready (rs := [43]) (by kernel_rfl) (by simp) ?_
    refine AllReadyH.cons (o := Oper.mk (some 50) (Op.call (Call.mk (Callee.value (Operand.func 12)) #[Operand.tmp 47, Operand.tmp 49] #[28, 28])) 4 "law.go:47" #[Edge.mk 40 Ground.data, Edge.mk 42 Ground.data, Edge.mk 42 Ground.chain, Edge.mk 38 Ground.guard] (some (38, true))) rfl (fun K hK => ?_) AllReadyH.nil
    go_simp
    (go_at_call 12; go_split_ands; (with_reducible refine (CS.out A7 c7 A8 c8 _ HATM.out HAT8.out).mono ?_); rintro e9 v9w ⟨rfl, q9, rfl⟩; have B : Below U.heap.size U (v8w.drewN q9) := below_heap HBw.out rfl rfl rfl rfl; have r0 : (v8w.drewN q9).cell? ⟨zb, 0, none⟩ = some (.int .i64 k) := (B.cell (p := ⟨zb, 0, none⟩) kb).trans f0; have r1 : (v8w.drewN q9).cell? ⟨zb, 1, none⟩ = some (.int .i64 m) := (B.cell (p := ⟨zb, 1, none⟩) kb).trans f1; have r2 : (v8w.drewN q9).cell? ⟨zb, 2, none⟩ = some (.int .i64 x) := (B.cell (p := ⟨zb, 2, none⟩) kb).trans f2; have r3 : (v8w.drewN q9).cell? ⟨zb, 3, none⟩ = some (.int .i64 y) := (B.cell (p := ⟨zb, 3, none⟩) kb).trans f3; have r4 : (v8w.drewN q9).cell? ⟨za, 0, none⟩ = some (.int .i64 k) := (B.cell (p := ⟨za, 0, none⟩) ka).trans g0; have r5 : (v8w.drewN q9).cell? ⟨za, 1, none⟩ = some (.int .i64 m) := (B.cell (p := ⟨za, 1, none⟩) ka).trans g1; have r6 : (v8w.drewN q9).cell? ⟨za, 2, none⟩ = some (.int .i64 x) := (B.cell (p := ⟨za, 2, none⟩) ka).trans g2; have r7 : (v8w.drewN q9).cell? ⟨za, 3, none⟩ = some (.int .i64 y) := (B.cell (p := ⟨za, 3, none⟩) ka).trans g3; have HBf := Lib.hid B)
    go_wp2_with fail
    refine hK.out _ _ ?_ (fun hH9 => ?_)
    · ((try dsimp only); (first | (refine ⟨?_, ?_, ?_, ?_, ?_, ?_, ?_, ?_, ?_⟩ <;> first | with_reducible assumption | with_reducible exact Below_drew HBB | exact Below_drew HBB | exact below_heap HBB rfl rfl rfl rfl | assumption) | go_keep))
    clear hK K
    try clear hH8
    try simp only [Act.put, List.setIfInBounds_toArray, List.set_cons_zero, List.set_cons_succ]
    refine wpAnyH_take (i := 44) (oi := Oper.mk (some 51) (Op.pick (Operand.tmp 45) (Operand.tmp 50) (Operand.const (Value.bool false))) 4 "law.go:47" #[Edge.mk 38 Ground.data, Edge.mk 43 Ground.data] none) (v := ?_) rfl (by kernel_rfl) (by kernel_rfl) (by kernel_rfl) (fun _ _ _ h => h) (Or.inl ⟨by rfl, ?_⟩) (by assumption) ?_
    rotate_left 1
    · (intro w hSw; (try dsimp only at hSw); go_simp; (try with_reducible rfl))
    try simp only [Act.put, List.setIfInBounds_toArray, List.set_cons_zero, List.set_cons_succ]
    refine wpAnyH_take (i := 45) (oi := Oper.mk (some 2) (Op.assign (Operand.tmp 51)) 4 "law.go:47" #[Edge.mk 44 Ground.data, Edge.mk 43 Ground.chain, Edge.mk 0 Ground.phase, Edge.mk 1 Ground.phase, Edge.mk 2 Ground.phase, Edge.mk 3 Ground.phase, Edge.mk 4 Ground.phase, Edge.mk 5 Ground.phase, Edge.mk 6 Ground.phase, Edge.mk 7 Ground.phase, Edge.mk 8 Ground.phase, Edge.mk 9 Ground.phase, Edge.mk 10 Ground.phase, Edge.mk 11 Ground.phase, Edge.mk 12 Ground.phase, Edge.mk 13 Ground.phase, Edge.mk 14 Ground.phase, Edge.mk 15 Ground.phase, Edge.mk 16 Ground.phase, Edge.mk 17 Ground.phase, Edge.mk 18 Ground.phase, Edge.mk 19 Ground.phase, Edge.mk 20 Ground.phase, Edge.mk 21 Ground.phase, Edge.mk 22 Ground.phase, Edge.mk 23 Ground.phase, Edge.mk 24 Ground.phase, Edge.mk 25 Ground.phase, Edge.mk 26 Ground.phase, Edge.mk 27 Ground.phase, Edge.mk 28 Ground.phase, Edge.mk 29 Ground.phase, Edge.mk 30 Ground.phase, Edge.mk 31 Ground.phase, Edge.mk 32 Ground.phase, Edge.mk 33 Ground.phase, Edge.mk 34 Ground.phase, Edge.mk 35 Ground.phase, Edge.mk 36 Ground.phase, Edge.mk 37 Ground.phase, Edge.mk 38 Ground.phase, Edge.mk 39 Ground.phase, Edge.mk 40 Ground.phase, Edge.mk 41 Ground.phase, Edge.mk 42 Ground.phase, Edge.mk 43 Ground.phase, Edge.mk 44 Ground.phase] none) (v := ?_) rfl (by kernel_rfl) (by kernel_rfl) (by kernel_rfl) (fun _ _ _ h => h) (Or.inl ⟨by rfl, ?_⟩) (by assumption) ?_
    rotate_left 1
    · (intro w hSw; (try dsimp only at hSw); go_simp; (try with_reducible rfl))
    try simp only [Act.put, List.setIfInBounds_toArray, List.set_cons_zero, List.set_cons_succ]
    refine wpAnyH_done (by kernel_rfl) ?_ _
    all_goals (go_split_ands; go_wp2_with fail; (try go_wp2); go_ret; exact ⟨rfl, HBU.out.trans (HBf.out.mono HBU.out.size)⟩)
  · skip
    by_cases h3 : k = 3
    · have hE : decide (k = 2 ∨ k = 3) = true := by simp; omega
      have hL : decide (k = 5 ∨ k = 6) = false := by simp; omega
      rw [hE] at CE0
      rw [hL] at CL0
      have CE := Lib.hid CE0
      have CL := Lib.hid CL0
      have b2 : (k == 2) = false := by simp; omega
      have b3 : (k == 3) = true := by simp; omega
      have b5 : (k == 5) = false := by simp; omega
      have b6 : (k == 6) = false := by simp; omega
      clear hE hL CE0 CL0 h2 h3
      go_enter Try.func3, Try.ntmps3
      go_wp2_with fail
      rw [← HW0.out]
      (with_reducible refine (awake_any _).mono ?_)
      rintro e w1 ⟨rfl, hb1⟩
      have hl1 := HL0.out.below hb1
      obtain ⟨U, hU⟩ : ∃ U, U = w1.alloc (.cells #[.int .i64 k, .int .i64 m, .int .i64 x, .int .i64 y] 25) := ⟨_, rfl⟩
      have hlu : Blk U za 23 #[.int .i64 k, .int .i64 m, .int .i64 x, .int .i64 y] := by rw [hU, HZA.out]; exact hl1.alloc _
      obtain ⟨zb, hzb⟩ : ∃ z, z = w1.heap.size := ⟨_, rfl⟩
      have hlb : Blk U zb 25 #[.int .i64 k, .int .i64 m, .int .i64 x, .int .i64 y] := by rw [hU, hzb]; exact Blk.new w1 _ _
      have HBU : Hid (Below w.heap.size w U) := by show Below _ _ _; rw [hU]; exact below_more (HB0.out.trans (hb1.mono HB0.out.size)) _
      have e0 := hl1.cell 0 (v := .int .i64 k) rfl
      have e1 := hl1.cell 1 (v := .int .i64 m) rfl
      have e2 := hl1.cell 2 (v := .int .i64 x) rfl
      have e3 := hl1.cell 3 (v := .int .i64 y) rfl
      have HU := Lib.hid hU
      have HZB := Lib.hid hzb
      have f0 := hlb.cell 0 (v := .int .i64 k) rfl
      have f1 := hlb.cell 1 (v := .int .i64 m) rfl
      have f2 := hlb.cell 2 (v := .int .i64 x) rfl
      have f3 := hlb.cell 3 (v := .int .i64 y) rfl
      have g0 := hlu.cell 0 (v := .int .i64 k) rfl
      have g1 := hlu.cell 1 (v := .int .i64 m) rfl
      have g2 := hlu.cell 2 (v := .int .i64 x) rfl
      have g3 := hlu.cell 3 (v := .int .i64 y) rfl
      have kb : zb < U.heap.size := hlb.lt
      have ka : za < U.heap.size := hlu.lt
      clear hU hzb hlu hlb hl1 hb1
      go_upto_region 4 with fail
      rw [← HU.out, ← HZB.out, ← HZA.out]
      clear e0 e1 e2 e3
      have HBB := Below.refl U.heap.size U
      refine wp_region_held_drew (S := (fun w' => w'.cell? ⟨zb, 0, none⟩ = some (.int .i64 k) ∧ w'.cell? ⟨zb, 1, none⟩ = some (.int .i64 m) ∧ w'.cell? ⟨zb, 2, none⟩ = some (.int .i64 x) ∧ w'.cell? ⟨zb, 3, none⟩ = some (.int .i64 y) ∧ w'.cell? ⟨za, 0, none⟩ = some (.int .i64 k) ∧ w'.cell? ⟨za, 1, none⟩ = some (.int .i64 m) ∧ w'.cell? ⟨za, 2, none⟩ = some (.int .i64 x) ∧ w'.cell? ⟨za, 3, none⟩ = some (.int .i64 y) ∧ Below U.heap.size U w')) (by kernel_rfl) ?_ (fun hH0 => ?_)
      · ((try dsimp only); (first | (refine ⟨?_, ?_, ?_, ?_, ?_, ?_, ?_, ?_, ?_⟩ <;> first | with_reducible assumption | with_reducible exact Below_drew HBB | exact Below_drew HBB | exact below_heap HBB rfl rfl rfl rfl | assumption) | go_keep))
      refine wpAnyH_take (i := 0) (oi := Oper.mk (some 7) (Op.load 25 (Operand.tmp 3)) 25 "law.go:47" #[] none) (v := ?_) rfl (by kernel_rfl) (by kernel_rfl) (by kernel_rfl) (fun _ _ _ h => h) (Or.inl ⟨by rfl, ?_⟩) (by assumption) ?_
      rotate_left 1
      · (intro w hSw; (try dsimp only at hSw); go_simp; (try with_reducible rfl))
      try simp only [Act.put, List.setIfInBounds_toArray, List.set_cons_zero, List.set_cons_succ]
      refine wpAnyH_take (i := 2) (oi := Oper.mk (some 9) (Op.load 23 (Operand.tmp 1)) 23 "law.go:47" #[] none) (v := ?_) rfl (by kernel_rfl) (by kernel_rfl) (by kernel_rfl) (fun _ _ _ h => h) (Or.inl ⟨by rfl, ?_⟩) (by assumption) ?_
      rotate_left 1
      · (intro w hSw; (try dsimp only at hSw); go_simp; (try with_reducible rfl))
      try simp only [Act.put, List.setIfInBounds_toArray, List.set_cons_zero, List.set_cons_succ]
      refine wpAnyH_ready (rs := [1]) (by kernel_rfl) (by simp) ?_
      refine AllReadyH.cons (o := Oper.mk (some 8) (Op.call (Call.mk (Callee.value (Operand.func 6)) #[Operand.tmp 7] #[25])) 4 "law.go:47" #[Edge.mk 0 Ground.data] none) rfl (fun K hK => ?_) AllReadyH.nil
      go_simp
      (go_at_call 6; go_split_ands; (with_reducible refine (CM.out _).mono ?_); rintro e9 v1w ⟨rfl, hb⟩; have B : Below U.heap.size U v1w := below_join (by assumption) hb; have r0 := (B.cell (p := ⟨zb, 0, none⟩) kb).trans f0; have r1 := (B.cell (p := ⟨zb, 1, none⟩) kb).trans f1; have r2 := (B.cell (p := ⟨zb, 2, none⟩) kb).trans f2; have r3 := (B.cell (p := ⟨zb, 3, none⟩) kb).trans f3; have r4 := (B.cell (p := ⟨za, 0, none⟩) ka).trans g0; have r5 := (B.cell (p := ⟨za, 1, none⟩) ka).trans g1; have r6 := (B.cell (p := ⟨za, 2, none⟩) ka).trans g2; have r7 := (B.cell (p := ⟨za, 3, none⟩) ka).trans g3; clear hb)
      go_wp2_with fail
      refine hK.out _ _ ?_ (fun hH1 => ?_)
      · ((try dsimp only); (first | (refine ⟨?_, ?_, ?_, ?_, ?_, ?_, ?_, ?_, ?_⟩ <;> first | with_reducible assumption | with_reducible exact Below_drew HBB | exact Below_drew HBB | exact below_heap HBB rfl rfl rfl rfl | assumption) | go_keep))
      clear hK K
      try clear hH0
      try simp only [Act.put, List.setIfInBounds_toArray, List.set_cons_zero, List.set_cons_succ]
      refine wpAnyH_ready (rs := [3]) (by kernel_rfl) (by simp) ?_
      refine AllReadyH.cons (o := Oper.mk (some 10) (Op.call (Call.mk (Callee.value (Operand.func 7)) #[Operand.tmp 9] #[23])) 4 "law.go:47" #[Edge.mk 2 Ground.data, Edge.mk 1 Ground.chain] none) rfl (fun K hK => ?_) AllReadyH.nil
      go_simp
      (go_at_call 7; go_split_ands; (with_reducible refine (CRM.out _).mono ?_); rintro e9 v2w ⟨rfl, hb⟩; have B : Below U.heap.size U v2w := below_join (by assumption) hb; have r0 := (B.cell (p := ⟨zb, 0, none⟩) kb).trans f0; have r1 := (B.cell (p := ⟨zb, 1, none⟩) kb).trans f1; have r2 := (B.cell (p := ⟨zb, 2, none⟩) kb).trans f2; have r3 := (B.cell (p := ⟨zb, 3, none⟩) kb).trans f3; have r4 := (B.cell (p := ⟨za, 0, none⟩) ka).trans g0; have r5 := (B.cell (p := ⟨za, 1, none⟩) ka).trans g1; have r6 := (B.cell (p := ⟨za, 2, none⟩) ka).trans g2; have r7 := (B.cell (p := ⟨za, 3, none⟩) ka).trans g3; clear hb)
      go_wp2_with fail
      refine hK.out _ _ ?_ (fun hH2 => ?_)
      · ((try dsimp only); (first | (refine ⟨?_, ?_, ?_, ?_, ?_, ?_, ?_, ?_, ?_⟩ <;> first | with_reducible assumption | with_reducible exact Below_drew HBB | exact Below_drew HBB | exact below_heap HBB rfl rfl rfl rfl | assumption) | go_keep))
      clear hK K
      try clear hH1
      try simp only [Act.put, List.setIfInBounds_toArray, List.set_cons_zero, List.set_cons_succ]
      refine wpAnyH_take (i := 4) (oi := Oper.mk (some 11) (Op.binOp BinOp.eql 4 (Operand.tmp 8) (Operand.tmp 10) 4) 4 "law.go:47" #[Edge.mk 1 Ground.data, Edge.mk 3 Ground.data] none) (v := ?_) rfl (by kernel_rfl) (by kernel_rfl) (by kernel_rfl) (fun _ _ _ h => h) (Or.inl ⟨by rfl, ?_⟩) (by assumption) ?_
      rotate_left 1
      · (intro w hSw; (try dsimp only at hSw); go_simp; (try with_reducible rfl))
      try simp only [Act.put, List.setIfInBounds_toArray, List.set_cons_zero, List.set_cons_succ]
      refine wpAnyH_take (i := 5) (oi := Oper.mk (some 12) (Op.move (Operand.tmp 11)) 4 "law.go:47" #[Edge.mk 4 Ground.data, Edge.mk 3 Ground.chain] none) (v := ?_) rfl (by kernel_rfl) (by kernel_rfl) (by kernel_rfl) (fun _ _ _ h => h) (Or.inl ⟨by rfl, ?_⟩) (by assumption) ?_
      rotate_left 1
      · (intro w hSw; (try dsimp only at hSw); go_simp; (try with_reducible rfl))
      try simp only [Act.put, List.setIfInBounds_toArray, List.set_cons_zero, List.set_cons_succ]
      refine wpAnyH_take (i := 6) (oi := Oper.mk (some 13) (Op.load 25 (Operand.tmp 3)) 25 "law.go:47" #[Edge.mk 5 Ground.guard] (some (5, true))) (v := ?_) rfl (by kernel_rfl) (by kernel_rfl) (by kernel_rfl) (fun _ _ _ h => h) (Or.inl ⟨by rfl, ?_⟩) (by assumption) ?_
      rotate_left 1
      · (intro w hSw; (try dsimp only at hSw); go_simp; (try with_reducible rfl))
      try simp only [Act.put, List.setIfInBounds_toArray, List.set_cons_zero, List.set_cons_succ]
      refine wpAnyH_take (i := 8) (oi := Oper.mk (some 15) (Op.load 23 (Operand.tmp 1)) 23 "law.go:47" #[Edge.mk 5 Ground.guard] (some (5, true))) (v := ?_) rfl (by kernel_rfl) (by kernel_rfl) (by kernel_rfl) (fun _ _ _ h => h) (Or.inl ⟨by rfl, ?_⟩) (by assumption) ?_
      rotate_left 1
      · (intro w hSw; (try dsimp only at hSw); go_simp; (try with_reducible rfl))
      try simp only [Act.put, List.setIfInBounds_toArray, List.set_cons_zero, List.set_cons_succ]
      refine wpAnyH_ready (rs := [7]) (by kernel_rfl) (by simp) ?_
      refine AllReadyH.cons (o := Oper.mk (some 14) (Op.call (Call.mk (Callee.value (Operand.func 8)) #[Operand.tmp 13] #[25])) 4 "law.go:47" #[Edge.mk 6 Ground.data, Edge.mk 5 Ground.chain, Edge.mk 5 Ground.guard] (some (5, true))) rfl (fun K hK => ?_) AllReadyH.nil
      go_simp
      (go_at_call 8; go_split_ands; (with_reducible refine (CG.out _).mono ?_); rintro e9 v3w ⟨rfl, hb⟩; have B : Below U.heap.size U v3w := below_join (by assumption) hb; have r0 := (B.cell (p := ⟨zb, 0, none⟩) kb).trans f0; have r1 := (B.cell (p := ⟨zb, 1, none⟩) kb).trans f1; have r2 := (B.cell (p := ⟨zb, 2, none⟩) kb).trans f2; have r3 := (B.cell (p := ⟨zb, 3, none⟩) kb).trans f3; have r4 := (B.cell (p := ⟨za, 0, none⟩) ka).trans g0; have r5 := (B.cell (p := ⟨za, 1, none⟩) ka).trans g1; have r6 := (B.cell (p := ⟨za, 2, none⟩) ka).trans g2; have r7 := (B.cell (p := ⟨za, 3, none⟩) ka).trans g3; clear hb)
      go_wp2_with fail
      refine hK.out _ _ ?_ (fun hH3 => ?_)
      · ((try dsimp only); (first | (refine ⟨?_, ?_, ?_, ?_, ?_, ?_, ?_, ?_, ?_⟩ <;> first | with_reducible assumption | with_reducible exact Below_drew HBB | exact Below_drew HBB | exact below_heap HBB rfl rfl rfl rfl | assumption) | go_keep))
      clear hK K
      try clear hH2
      try simp only [Act.put, List.setIfInBounds_toArray, List.set_cons_zero, List.set_cons_succ]
      refine wpAnyH_ready (rs := [9]) (by kernel_rfl) (by simp) ?_
      refine AllReadyH.cons (o := Oper.mk (some 16) (Op.call (Call.mk (Callee.value (Operand.func 9)) #[Operand.tmp 15] #[23])) 4 "law.go:47" #[Edge.mk 8 Ground.data, Edge.mk 7 Ground.chain, Edge.mk 5 Ground.guard] (some (5, true))) rfl (fun K hK => ?_) AllReadyH.nil
      go_simp
      (go_at_call 9; go_split_ands; (with_reducible refine (CRG.out _).mono ?_); rintro e9 v4w ⟨rfl, hb⟩; have B : Below U.heap.size U v4w := below_join (by assumption) hb; have r0 := (B.cell (p := ⟨zb, 0, none⟩) kb).trans f0; have r1 := (B.cell (p := ⟨zb, 1, none⟩) kb).trans f1; have r2 := (B.cell (p := ⟨zb, 2, none⟩) kb).trans f2; have r3 := (B.cell (p := ⟨zb, 3, none⟩) kb).trans f3; have r4 := (B.cell (p := ⟨za, 0, none⟩) ka).trans g0; have r5 := (B.cell (p := ⟨za, 1, none⟩) ka).trans g1; have r6 := (B.cell (p := ⟨za, 2, none⟩) ka).trans g2; have r7 := (B.cell (p := ⟨za, 3, none⟩) ka).trans g3; clear hb)
      go_wp2_with fail
      refine hK.out _ _ ?_ (fun hH4 => ?_)
      · ((try dsimp only); (first | (refine ⟨?_, ?_, ?_, ?_, ?_, ?_, ?_, ?_, ?_⟩ <;> first | with_reducible assumption | with_reducible exact Below_drew HBB | exact Below_drew HBB | exact below_heap HBB rfl rfl rfl rfl | assumption) | go_keep))
      clear hK K
      try clear hH3
      try simp only [Act.put, List.setIfInBounds_toArray, List.set_cons_zero, List.set_cons_succ]
      refine wpAnyH_take (i := 10) (oi := Oper.mk (some 17) (Op.binOp BinOp.eql 4 (Operand.tmp 14) (Operand.tmp 16) 4) 4 "law.go:47" #[Edge.mk 7 Ground.data, Edge.mk 9 Ground.data, Edge.mk 5 Ground.guard] (some (5, true))) (v := ?_) rfl (by kernel_rfl) (by kernel_rfl) (by kernel_rfl) (fun _ _ _ h => h) (Or.inl ⟨by rfl, ?_⟩) (by assumption) ?_
      rotate_left 1
      · (intro w hSw; (try dsimp only at hSw); go_simp; (try with_reducible rfl))
      try simp only [Act.put, List.setIfInBounds_toArray, List.set_cons_zero, List.set_cons_succ]
      refine wpAnyH_take (i := 11) (oi := Oper.mk (some 18) (Op.pick (Operand.tmp 12) (Operand.tmp 17) (Operand.const (Value.bool false))) 4 "law.go:47" #[Edge.mk 5 Ground.data, Edge.mk 10 Ground.data] none) (v := ?_) rfl (by kernel_rfl) (by kernel_rfl) (by kernel_rfl) (fun _ _ _ h => h) (Or.inl ⟨by rfl, ?_⟩) (by assumption) ?_
      rotate_left 1
      · (intro w hSw; (try dsimp only at hSw); go_simp; (try with_reducible rfl))
      try simp only [Act.put, List.setIfInBounds_toArray, List.set_cons_zero, List.set_cons_succ]
      refine wpAnyH_take (i := 12) (oi := Oper.mk (some 19) (Op.move (Operand.tmp 18)) 4 "law.go:47" #[Edge.mk 11 Ground.data, Edge.mk 9 Ground.chain] none) (v := ?_) rfl (by kernel_rfl) (by kernel_rfl) (by kernel_rfl) (fun _ _ _ h => h) (Or.inl ⟨by rfl, ?_⟩) (by assumption) ?_
      rotate_left 1
      · (intro w hSw; (try dsimp only at hSw); go_simp; (try with_reducible rfl))
      try simp only [Act.put, List.setIfInBounds_toArray, List.set_cons_zero, List.set_cons_succ]
      refine wpAnyH_take (i := 13) (oi := Oper.mk (some 20) (Op.load 25 (Operand.tmp 3)) 25 "law.go:47" #[Edge.mk 12 Ground.guard] (some (12, true))) (v := ?_) rfl (by kernel_rfl) (by kernel_rfl) (by kernel_rfl) (fun _ _ _ h => h) (Or.inl ⟨by rfl, ?_⟩) (by assumption) ?_
      rotate_left 1
      · (intro w hSw; (try dsimp only at hSw); go_simp; (try with_reducible rfl))
      try simp only [Act.put, List.setIfInBounds_toArray, List.set_cons_zero, List.set_cons_succ]
      refine wpAnyH_take (i := 15) (oi := Oper.mk (some 22) (Op.fieldAddr 23 (Operand.tmp 1) 0) 0 "law.go:47" #[Edge.mk 12 Ground.guard] (some (12, true))) (v := ?_) rfl (by kernel_rfl) (by kernel_rfl) (by kernel_rfl) (fun _ _ _ h => h) (Or.inl ⟨by rfl, ?_⟩) (by assumption) ?_
      rotate_left 1
      · (intro w hSw; (try dsimp only at hSw); go_simp; (try with_reducible rfl))
      try simp only [Act.put, List.setIfInBounds_toArray, List.set_cons_zero, List.set_cons_succ]
      refine wpAnyH_take (i := 16) (oi := Oper.mk (some 23) (Op.load 3 (Operand.tmp 22)) 3 "law.go:47" #[Edge.mk 15 Ground.data, Edge.mk 12 Ground.guard] (some (12, true))) (v := ?_) rfl (by kernel_rfl) (by kernel_rfl) (by kernel_rfl) (fun _ _ _ h => h) (Or.inl ⟨by rfl, ?_⟩) (by assumption) ?_
      rotate_left 1
      · (intro w hSw; (try dsimp only at hSw); go_simp; (try with_reducible rfl))
      try simp only [Act.put, List.setIfInBounds_toArray, List.set_cons_zero, List.set_cons_succ]
      refine wpAnyH_take (i := 17) (oi := Oper.mk (some 24) (Op.binOp BinOp.eql 3 (Operand.tmp 23) (Operand.const (Value.int IntKind.i64 2)) 3) 4 "law.go:47" #[Edge.mk 16 Ground.data, Edge.mk 12 Ground.guard] (some (12, true))) (v := ?_) rfl (by kernel_rfl) (by kernel_rfl) (by kernel_rfl) (fun _ _ _ h => h) (Or.inl ⟨by rfl, ?_⟩) (by assumption) ?_
      rotate_left 1
      · (intro w hSw; (try dsimp only at hSw); go_simp; (try with_reducible rfl))
      try simp only [Act.put, List.setIfInBounds_toArray, List.set_cons_zero, List.set_cons_succ]
      refine wpAnyH_ready (rs := [14]) (by kernel_rfl) (by simp) ?_
      refine AllReadyH.cons (o := Oper.mk (some 21) (Op.call (Call.mk (Callee.value (Operand.func 10)) #[Operand.tmp 20] #[25])) 4 "law.go:47" #[Edge.mk 13 Ground.data, Edge.mk 12 Ground.chain, Edge.mk 12 Ground.guard] (some (12, true))) rfl (fun K hK => ?_) AllReadyH.nil
      go_simp
      (go_at_call 10; go_split_ands; (with_reducible refine (CE.out _).mono ?_); rintro e9 v5w ⟨rfl, hb⟩; have B : Below U.heap.size U v5w := below_join (by assumption) hb; have r0 := (B.cell (p := ⟨zb, 0, none⟩) kb).trans f0; have r1 := (B.cell (p := ⟨zb, 1, none⟩) kb).trans f1; have r2 := (B.cell (p := ⟨zb, 2, none⟩) kb).trans f2; have r3 := (B.cell (p := ⟨zb, 3, none⟩) kb).trans f3; have r4 := (B.cell (p := ⟨za, 0, none⟩) ka).trans g0; have r5 := (B.cell (p := ⟨za, 1, none⟩) ka).trans g1; have r6 := (B.cell (p := ⟨za, 2, none⟩) ka).trans g2; have r7 := (B.cell (p := ⟨za, 3, none⟩) ka).trans g3; clear hb)
      go_wp2_with fail
      refine hK.out _ _ ?_ (fun hH5 => ?_)
      · ((try dsimp only); (first | (refine ⟨?_, ?_, ?_, ?_, ?_, ?_, ?_, ?_, ?_⟩ <;> first | with_reducible assumption | with_reducible exact Below_drew HBB | exact Below_drew HBB | exact below_heap HBB rfl rfl rfl rfl | assumption) | go_keep))
      clear hK K
      try clear hH4
      try simp only [Act.put, List.setIfInBounds_toArray, List.set_cons_zero, List.set_cons_succ]
      refine wpAnyH_take (i := 18) (oi := Oper.mk (some 25) (Op.move (Operand.tmp 24)) 4 "law.go:47" #[Edge.mk 17 Ground.data, Edge.mk 14 Ground.chain, Edge.mk 12 Ground.guard] (some (12, true))) (v := ?_) rfl (by kernel_rfl) (by kernel_rfl) (by kernel_rfl) (fun _ _ _ h => h) (Or.inl ⟨by rfl, ?_⟩) (by assumption) ?_
      rotate_left 1
      · (intro w hSw; (try dsimp only at hSw); go_simp; (try with_reducible rfl))
      try simp only [Act.put, List.setIfInBounds_toArray, List.set_cons_zero, List.set_cons_succ]
      refine wpAnyH_take (i := 19) (oi := Oper.mk (some 26) (Op.fieldAddr 23 (Operand.tmp 1) 0) 0 "law.go:47" #[Edge.mk 18 Ground.guard] (some (18, false))) (v := ?_) rfl (by kernel_rfl) (by kernel_rfl) (by kernel_rfl) (fun _ _ _ h => h) (Or.inl ⟨by rfl, ?_⟩) (by assumption) ?_
      rotate_left 1
      · (intro w hSw; (try dsimp only at hSw); go_simp; (try with_reducible rfl))
      try simp only [Act.put, List.setIfInBounds_toArray, List.set_cons_zero, List.set_cons_succ]
      refine wpAnyH_take (i := 20) (oi := Oper.mk (some 27) (Op.load 3 (Operand.tmp 26)) 3 "law.go:47" #[Edge.mk 19 Ground.data, Edge.mk 18 Ground.guard] (some (18, false))) (v := ?_) rfl (by kernel_rfl) (by kernel_rfl) (by kernel_rfl) (fun _ _ _ h => h) (Or.inl ⟨by rfl, ?_⟩) (by assumption) ?_
      rotate_left 1
      · (intro w hSw; (try dsimp only at hSw); go_simp; (try with_reducible rfl))
      try simp only [Act.put, List.setIfInBounds_toArray, List.set_cons_zero, List.set_cons_succ]
      refine wpAnyH_take (i := 21) (oi := Oper.mk (some 28) (Op.binOp BinOp.eql 3 (Operand.tmp 27) (Operand.const (Value.int IntKind.i64 3)) 3) 4 "law.go:47" #[Edge.mk 20 Ground.data, Edge.mk 18 Ground.guard] (some (18, false))) (v := ?_) rfl (by kernel_rfl) (by kernel_rfl) (by kernel_rfl) (fun _ _ _ h => h) (Or.inl ⟨by rfl, ?_⟩) (by assumption) ?_
      rotate_left 1
      · (intro w hSw; (try dsimp only at hSw); go_simp; (try with_reducible rfl))
      try simp only [Act.put, List.setIfInBounds_toArray, List.set_cons_zero, List.set_cons_succ]
      refine wpAnyH_take (i := 22) (oi := Oper.mk (some 29) (Op.pick (Operand.tmp 25) (Operand.const (Value.bool true)) (Operand.tmp 28)) 4 "law.go:47" #[Edge.mk 18 Ground.data, Edge.mk 21 Ground.data, Edge.mk 12 Ground.guard] (some (12, true))) (v := ?_) rfl (by kernel_rfl) (by kernel_rfl) (by kernel_rfl) (fun _ _ _ h => h) (Or.inl ⟨by rfl, ?_⟩) (by assumption) ?_
      rotate_left 1
      · (intro w hSw; (try dsimp only at hSw); go_simp; (try with_reducible rfl))
      try simp only [Act.put, List.setIfInBounds_toArray, List.set_cons_zero, List.set_cons_succ]
      refine wpAnyH_take (i := 23) (oi := Oper.mk (some 30) (Op.binOp BinOp.eql 4 (Operand.tmp 21) (Operand.tmp 29) 4) 4 "law.go:47" #[Edge.mk 14 Ground.data, Edge.mk 22 Ground.data, Edge.mk 12 Ground.guard] (some (12, true))) (v := ?_) rfl (by kernel_rfl) (by kernel_rfl) (by kernel_rfl) (fun _ _ _ h => h) (Or.inl ⟨by rfl, ?_⟩) (by assumption) ?_
      rotate_left 1
      · (intro w hSw; (try dsimp only at hSw); go_simp; (try with_reducible rfl))
      try simp only [Act.put, List.setIfInBounds_toArray, List.set_cons_zero, List.set_cons_succ]
      refine wpAnyH_take (i := 24) (oi := Oper.mk (some 31) (Op.pick (Operand.tmp 19) (Operand.tmp 30) (Operand.const (Value.bool false))) 4 "law.go:47" #[Edge.mk 12 Ground.data, Edge.mk 23 Ground.data] none) (v := ?_) rfl (by kernel_rfl) (by kernel_rfl) (by kernel_rfl) (fun _ _ _ h => h) (Or.inl ⟨by rfl, ?_⟩) (by assumption) ?_
      rotate_left 1
      · (intro w hSw; (try dsimp only at hSw); go_simp; (try with_reducible rfl))
      try simp only [Act.put, List.setIfInBounds_toArray, List.set_cons_zero, List.set_cons_succ]
      refine wpAnyH_take (i := 25) (oi := Oper.mk (some 32) (Op.move (Operand.tmp 31)) 4 "law.go:47" #[Edge.mk 24 Ground.data, Edge.mk 18 Ground.chain] none) (v := ?_) rfl (by kernel_rfl) (by kernel_rfl) (by kernel_rfl) (fun _ _ _ h => h) (Or.inl ⟨by rfl, ?_⟩) (by assumption) ?_
      rotate_left 1
      · (intro w hSw; (try dsimp only at hSw); go_simp; (try with_reducible rfl))
      try simp only [Act.put, List.setIfInBounds_toArray, List.set_cons_zero, List.set_cons_succ]
      refine wpAnyH_take (i := 26) (oi := Oper.mk (some 33) (Op.load 25 (Operand.tmp 3)) 25 "law.go:47" #[Edge.mk 25 Ground.guard] (some (25, true))) (v := ?_) rfl (by kernel_rfl) (by kernel_rfl) (by kernel_rfl) (fun _ _ _ h => h) (Or.inl ⟨by rfl, ?_⟩) (by assumption) ?_
      rotate_left 1
      · (intro w hSw; (try dsimp only at hSw); go_simp; (try with_reducible rfl))
      try simp only [Act.put, List.setIfInBounds_toArray, List.set_cons_zero, List.set_cons_succ]
      refine wpAnyH_take (i := 28) (oi := Oper.mk (some 35) (Op.fieldAddr 23 (Operand.tmp 1) 0) 0 "law.go:47" #[Edge.mk 25 Ground.guard] (some (25, true))) (v := ?_) rfl (by kernel_rfl) (by kernel_rfl) (by kernel_rfl) (fun _ _ _ h => h) (Or.inl ⟨by rfl, ?_⟩) (by assumption) ?_
      rotate_left 1
      · (intro w hSw; (try dsimp only at hSw); go_simp; (try with_reducible rfl))
      try simp only [Act.put, List.setIfInBounds_toArray, List.set_cons_zero, List.set_cons_succ]
      refine wpAnyH_take (i := 29) (oi := Oper.mk (some 36) (Op.load 3 (Operand.tmp 35)) 3 "law.go:47" #[Edge.mk 28 Ground.data, Edge.mk 25 Ground.guard] (some (25, true))) (v := ?_) rfl (by kernel_rfl) (by kernel_rfl) (by kernel_rfl) (fun _ _ _ h => h) (Or.inl ⟨by rfl, ?_⟩) (by assumption) ?_
      rotate_left 1
      · (intro w hSw; (try dsimp only at hSw); go_simp; (try with_reducible rfl))
      try simp only [Act.put, List.setIfInBounds_toArray, List.set_cons_zero, List.set_cons_succ]
      refine wpAnyH_take (i := 30) (oi := Oper.mk (some 37) (Op.binOp BinOp.eql 3 (Operand.tmp 36) (Operand.const (Value.int IntKind.i64 5)) 3) 4 "law.go:47" #[Edge.mk 29 Ground.data, Edge.mk 25 Ground.guard] (some (25, true))) (v := ?_) rfl (by kernel_rfl) (by kernel_rfl) (by kernel_rfl) (fun _ _ _ h => h) (Or.inl ⟨by rfl, ?_⟩) (by assumption) ?_
      rotate_left 1
      · (intro w hSw; (try dsimp only at hSw); go_simp; (try with_reducible rfl))
      try simp only [Act.put, List.setIfInBounds_toArray, List.set_cons_zero, List.set_cons_succ]
      refine wpAnyH_ready (rs := [27]) (by kernel_rfl) (by simp) ?_
      refine AllReadyH.cons (o := Oper.mk (some 34) (Op.call (Call.mk (Callee.value (Operand.func 11)) #[Operand.tmp 33] #[25])) 4 "law.go:47" #[Edge.mk 26 Ground.data, Edge.mk 25 Ground.chain, Edge.mk 25 Ground.guard] (some (25, true))) rfl (fun K hK => ?_) AllReadyH.nil
      go_simp
      (go_at_call 11; go_split_ands; (with_reducible refine (CL.out _).mono ?_); rintro e9 v6w ⟨rfl, hb⟩; have B : Below U.heap.size U v6w := below_join (by assumption) hb; have r0 := (B.cell (p := ⟨zb, 0, none⟩) kb).trans f0; have r1 := (B.cell (p := ⟨zb, 1, none⟩) kb).trans f1; have r2 := (B.cell (p := ⟨zb, 2, none⟩) kb).trans f2; have r3 := (B.cell (p := ⟨zb, 3, none⟩) kb).trans f3; have r4 := (B.cell (p := ⟨za, 0, none⟩) ka).trans g0; have r5 := (B.cell (p := ⟨za, 1, none⟩) ka).trans g1; have r6 := (B.cell (p := ⟨za, 2, none⟩) ka).trans g2; have r7 := (B.cell (p := ⟨za, 3, none⟩) ka).trans g3; clear hb)
      go_wp2_with fail
      refine hK.out _ _ ?_ (fun hH6 => ?_)
      · ((try dsimp only); (first | (refine ⟨?_, ?_, ?_, ?_, ?_, ?_, ?_, ?_, ?_⟩ <;> first | with_reducible assumption | with_reducible exact Below_drew HBB | exact Below_drew HBB | exact below_heap HBB rfl rfl rfl rfl | assumption) | go_keep))
      clear hK K
      try clear hH5
      try simp only [Act.put, List.setIfInBounds_toArray, List.set_cons_zero, List.set_cons_succ]
      refine wpAnyH_take (i := 31) (oi := Oper.mk (some 38) (Op.move (Operand.tmp 37)) 4 "law.go:47" #[Edge.mk 30 Ground.data, Edge.mk 27 Ground.chain, Edge.mk 25 Ground.guard] (some (25, true))) (v := ?_) rfl (by kernel_rfl) (by kernel_rfl) (by kernel_rfl) (fun _ _ _ h => h) (Or.inl ⟨by rfl, ?_⟩) (by assumption) ?_
      rotate_left 1
      · (intro w hSw; (try dsimp only at hSw); go_simp; (try with_reducible rfl))
      try simp only [Act.put, List.setIfInBounds_toArray, List.set_cons_zero, List.set_cons_succ]
      refine wpAnyH_take (i := 32) (oi := Oper.mk (some 39) (Op.fieldAddr 23 (Operand.tmp 1) 0) 0 "law.go:47" #[Edge.mk 31 Ground.guard] (some (31, false))) (v := ?_) rfl (by kernel_rfl) (by kernel_rfl) (by kernel_rfl) (fun _ _ _ h => h) (Or.inl ⟨by rfl, ?_⟩) (by assumption) ?_
      rotate_left 1
      · (intro w hSw; (try dsimp only at hSw); go_simp; (try with_reducible rfl))
      try simp only [Act.put, List.setIfInBounds_toArray, List.set_cons_zero, List.set_cons_succ]
      refine wpAnyH_take (i := 33) (oi := Oper.mk (some 40) (Op.load 3 (Operand.tmp 39)) 3 "law.go:47" #[Edge.mk 32 Ground.data, Edge.mk 31 Ground.guard] (some (31, false))) (v := ?_) rfl (by kernel_rfl) (by kernel_rfl) (by kernel_rfl) (fun _ _ _ h => h) (Or.inl ⟨by rfl, ?_⟩) (by assumption) ?_
      rotate_left 1
      · (intro w hSw; (try dsimp only at hSw); go_simp; (try with_reducible rfl))
      try simp only [Act.put, List.setIfInBounds_toArray, List.set_cons_zero, List.set_cons_succ]
      refine wpAnyH_take (i := 34) (oi := Oper.mk (some 41) (Op.binOp BinOp.eql 3 (Operand.tmp 40) (Operand.const (Value.int IntKind.i64 6)) 3) 4 "law.go:47" #[Edge.mk 33 Ground.data, Edge.mk 31 Ground.guard] (some (31, false))) (v := ?_) rfl (by kernel_rfl) (by kernel_rfl) (by kernel_rfl) (fun _ _ _ h => h) (Or.inl ⟨by rfl, ?_⟩) (by assumption) ?_
      rotate_left 1
      · (intro w hSw; (try dsimp only at hSw); go_simp; (try with_reducible rfl))
      try simp only [Act.put, List.setIfInBounds_toArray, List.set_cons_zero, List.set_cons_succ]
      refine wpAnyH_take (i := 35) (oi := Oper.mk (some 42) (Op.pick (Operand.tmp 38) (Operand.const (Value.bool true)) (Operand.tmp 41)) 4 "law.go:47" #[Edge.mk 31 Ground.data, Edge.mk 34 Ground.data, Edge.mk 25 Ground.guard] (some (25, true))) (v := ?_) rfl (by kernel_rfl) (by kernel_rfl) (by kernel_rfl) (fun _ _ _ h => h) (Or.inl ⟨by rfl, ?_⟩) (by assumption) ?_
      rotate_left 1
      · (intro w hSw; (try dsimp only at hSw); go_simp; (try with_reducible rfl))
      try simp only [Act.put, List.setIfInBounds_toArray, List.set_cons_zero, List.set_cons_succ]
      refine wpAnyH_take (i := 36) (oi := Oper.mk (some 43) (Op.binOp BinOp.eql 4 (Operand.tmp 34) (Operand.tmp 42) 4) 4 "law.go:47" #[Edge.mk 27 Ground.data, Edge.mk 35 Ground.data, Edge.mk 25 Ground.guard] (some (25, true))) (v := ?_) rfl (by kernel_rfl) (by kernel_rfl) (by kernel_rfl) (fun _ _ _ h => h) (Or.inl ⟨by rfl, ?_⟩) (by assumption) ?_
      rotate_left 1
      · (intro w hSw; (try dsimp only at hSw); go_simp; (try with_reducible rfl))
      try simp only [Act.put, List.setIfInBounds_toArray, List.set_cons_zero, List.set_cons_succ]
      refine wpAnyH_take (i := 37) (oi := Oper.mk (some 44) (Op.pick (Operand.tmp 32) (Operand.tmp 43) (Operand.const (Value.bool false))) 4 "law.go:47" #[Edge.mk 25 Ground.data, Edge.mk 36 Ground.data] none) (v := ?_) rfl (by kernel_rfl) (by kernel_rfl) (by kernel_rfl) (fun _ _ _ h => h) (Or.inl ⟨by rfl, ?_⟩) (by assumption) ?_
      rotate_left 1
      · (intro w hSw; (try dsimp only at hSw); go_simp; (try with_reducible rfl))
      try simp only [Act.put, List.setIfInBounds_toArray, List.set_cons_zero, List.set_cons_succ]
      refine wpAnyH_take (i := 38) (oi := Oper.mk (some 45) (Op.move (Operand.tmp 44)) 4 "law.go:47" #[Edge.mk 37 Ground.data, Edge.mk 31 Ground.chain] none) (v := ?_) rfl (by kernel_rfl) (by kernel_rfl) (by kernel_rfl) (fun _ _ _ h => h) (Or.inl ⟨by rfl, ?_⟩) (by assumption) ?_
      rotate_left 1
      · (intro w hSw; (try dsimp only at hSw); go_simp; (try with_reducible rfl))
      try simp only [Act.put, List.setIfInBounds_toArray, List.set_cons_zero, List.set_cons_succ]
      refine wpAnyH_take (i := 39) (oi := Oper.mk (some 46) (Op.load 25 (Operand.tmp 3)) 25 "law.go:47" #[Edge.mk 38 Ground.guard] (some (38, true))) (v := ?_) rfl (by kernel_rfl) (by kernel_rfl) (by kernel_rfl) (fun _ _ _ h => h) (Or.inl ⟨by rfl, ?_⟩) (by assumption) ?_
      rotate_left 1
      · (intro w hSw; (try dsimp only at hSw); go_simp; (try with_reducible rfl))
      try simp only [Act.put, List.setIfInBounds_toArray, List.set_cons_zero, List.set_cons_succ]
      refine wpAnyH_take (i := 41) (oi := Oper.mk (some 48) (Op.load 23 (Operand.tmp 1)) 23 "law.go:47" #[Edge.mk 38 Ground.guard] (some (38, true))) (v := ?_) rfl (by kernel_rfl) (by kernel_rfl) (by kernel_rfl) (fun _ _ _ h => h) (Or.inl ⟨by rfl, ?_⟩) (by assumption) ?_
      rotate_left 1
      · (intro w hSw; (try dsimp only at hSw); go_simp; (try with_reducible rfl))
      try simp only [Act.put, List.setIfInBounds_toArray, List.set_cons_zero, List.set_cons_succ]
      refine wpAnyH_ready (rs := [40]) (by kernel_rfl) (by simp) ?_
      refine AllReadyH.cons (o := Oper.mk (some 47) (Op.call (Call.mk (Callee.value (Operand.func 13)) #[Operand.tmp 46] #[25])) 28 "law.go:47" #[Edge.mk 39 Ground.data, Edge.mk 38 Ground.chain, Edge.mk 38 Ground.guard] (some (38, true))) rfl (fun K hK => ?_) AllReadyH.nil
      go_simp
      (go_at_call 13; go_split_ands; (with_reducible refine (CC.out _).mono ?_); rintro e9 v7w ⟨v7, rfl, ho, hb⟩; obtain ⟨A7, c7, rfl, hc7, hm7, hat⟩ := at_of_own' ho; have HAT7 := Lib.hid hat; have B : Below U.heap.size U v7w := below_join (by assumption) hb; have r0 := (B.cell (p := ⟨zb, 0, none⟩) kb).trans f0; have r1 := (B.cell (p := ⟨zb, 1, none⟩) kb).trans f1; have r2 := (B.cell (p := ⟨zb, 2, none⟩) kb).trans f2; have r3 := (B.cell (p := ⟨zb, 3, none⟩) kb).trans f3; have r4 := (B.cell (p := ⟨za, 0, none⟩) ka).trans g0; have r5 := (B.cell (p := ⟨za, 1, none⟩) ka).trans g1; have r6 := (B.cell (p := ⟨za, 2, none⟩) ka).trans g2; have r7 := (B.cell (p := ⟨za, 3, none⟩) ka).trans g3; have HBw := Lib.hid B; clear hb ho hat)
      go_wp2_with fail
      refine hK.out _ _ ?_ (fun hH7 => ?_)
      · ((try dsimp only); (first | (refine ⟨?_, ?_, ?_, ?_, ?_, ?_, ?_, ?_, ?_⟩ <;> first | with_reducible assumption | with_reducible exact Below_drew HBB | exact Below_drew HBB | exact below_heap HBB rfl rfl rfl rfl | assumption) | go_keep))
      clear hK K
      try clear hH6
      try simp only [Act.put, List.setIfInBounds_toArray, List.set_cons_zero, List.set_cons_succ]
      refine wpAnyH_ready (rs := [42]) (by kernel_rfl) (by simp) ?_
      refine AllReadyH.cons (o := Oper.mk (some 49) (Op.call (Call.mk (Callee.value (Operand.func 14)) #[Operand.tmp 48] #[23])) 28 "law.go:47" #[Edge.mk 41 Ground.data, Edge.mk 40 Ground.chain, Edge.mk 38 Ground.guard] (some (38, true))) rfl (fun K hK => ?_) AllReadyH.nil
      go_simp
      (go_at_call 14; go_split_ands; (with_reducible refine (CRC.out _).mono ?_); rintro e9 v8w ⟨v8, rfl, ho, hb⟩; obtain ⟨A8, c8, rfl, hc8, hm8, hat⟩ := at_of_own' ho; have HAT8 := Lib.hid hat; have B : Below U.heap.size U v8w := below_join (by assumption) hb; have r0 := (B.cell (p := ⟨zb, 0, none⟩) kb).trans f0; have r1 := (B.cell (p := ⟨zb, 1, none⟩) kb).trans f1; have r2 := (B.cell (p := ⟨zb, 2, none⟩) kb).trans f2; have r3 := (B.cell (p := ⟨zb, 3, none⟩) kb).trans f3; have r4 := (B.cell (p := ⟨za, 0, none⟩) ka).trans g0; have r5 := (B.cell (p := ⟨za, 1, none⟩) ka).trans g1; have r6 := (B.cell (p := ⟨za, 2, none⟩) ka).trans g2; have r7 := (B.cell (p := ⟨za, 3, none⟩) ka).trans g3; have HATM := Lib.hid (HAT7.out.below (show Below v7w.heap.size v7w v8w from below_join (by first | exact Below.refl _ _ | exact Below_drew (Below.refl _ _)) hb)); have HBw := Lib.hid B; clear hb ho hat)
      go_wp2_with fail
      refine hK.out _ _ ?_ (fun hH8 => ?_)
      · ((try dsimp only); (first | (refine ⟨?_, ?_, ?_, ?_, ?_, ?_, ?_, ?_, ?_⟩ <;> first | with_reducible assumption | with_reducible exact Below_drew HBB | exact Below_drew HBB | exact below_heap HBB rfl rfl rfl rfl | assumption) | go_keep))
      clear hK K
      try clear hH7
      try simp only [Act.put, List.setIfInBounds_toArray, List.set_cons_zero, List.set_cons_succ]
      refine wpAnyH_ready (rs := [43]) (by kernel_rfl) (by simp) ?_
      refine AllReadyH.cons (o := Oper.mk (some 50) (Op.call (Call.mk (Callee.value (Operand.func 12)) #[Operand.tmp 47, Operand.tmp 49] #[28, 28])) 4 "law.go:47" #[Edge.mk 40 Ground.data, Edge.mk 42 Ground.data, Edge.mk 42 Ground.chain, Edge.mk 38 Ground.guard] (some (38, true))) rfl (fun K hK => ?_) AllReadyH.nil
      go_simp
      (go_at_call 12; go_split_ands; (with_reducible refine (CS.out A7 c7 A8 c8 _ HATM.out HAT8.out).mono ?_); rintro e9 v9w ⟨rfl, q9, rfl⟩; have B : Below U.heap.size U (v8w.drewN q9) := below_heap HBw.out rfl rfl rfl rfl; have r0 : (v8w.drewN q9).cell? ⟨zb, 0, none⟩ = some (.int .i64 k) := (B.cell (p := ⟨zb, 0, none⟩) kb).trans f0; have r1 : (v8w.drewN q9).cell? ⟨zb, 1, none⟩ = some (.int .i64 m) := (B.cell (p := ⟨zb, 1, none⟩) kb).trans f1; have r2 : (v8w.drewN q9).cell? ⟨zb, 2, none⟩ = some (.int .i64 x) := (B.cell (p := ⟨zb, 2, none⟩) kb).trans f2; have r3 : (v8w.drewN q9).cell? ⟨zb, 3, none⟩ = some (.int .i64 y) := (B.cell (p := ⟨zb, 3, none⟩) kb).trans f3; have r4 : (v8w.drewN q9).cell? ⟨za, 0, none⟩ = some (.int .i64 k) := (B.cell (p := ⟨za, 0, none⟩) ka).trans g0; have r5 : (v8w.drewN q9).cell? ⟨za, 1, none⟩ = some (.int .i64 m) := (B.cell (p := ⟨za, 1, none⟩) ka).trans g1; have r6 : (v8w.drewN q9).cell? ⟨za, 2, none⟩ = some (.int .i64 x) := (B.cell (p := ⟨za, 2, none⟩) ka).trans g2; have r7 : (v8w.drewN q9).cell? ⟨za, 3, none⟩ = some (.int .i64 y) := (B.cell (p := ⟨za, 3, none⟩) ka).trans g3; have HBf := Lib.hid B)
      go_wp2_with fail
      refine hK.out _ _ ?_ (fun hH9 => ?_)
      · ((try dsimp only); (first | (refine ⟨?_, ?_, ?_, ?_, ?_, ?_, ?_, ?_, ?_⟩ <;> first | with_reducible assumption | with_reducible exact Below_drew HBB | exact Below_drew HBB | exact below_heap HBB rfl rfl rfl rfl | assumption) | go_keep))
      clear hK K
      try clear hH8
      try simp only [Act.put, List.setIfInBounds_toArray, List.set_cons_zero, List.set_cons_succ]
      refine wpAnyH_take (i := 44) (oi := Oper.mk (some 51) (Op.pick (Operand.tmp 45) (Operand.tmp 50) (Operand.const (Value.bool false))) 4 "law.go:47" #[Edge.mk 38 Ground.data, Edge.mk 43 Ground.data] none) (v := ?_) rfl (by kernel_rfl) (by kernel_rfl) (by kernel_rfl) (fun _ _ _ h => h) (Or.inl ⟨by rfl, ?_⟩) (by assumption) ?_
      rotate_left 1
      · (intro w hSw; (try dsimp only at hSw); go_simp; (try with_reducible rfl))
      try simp only [Act.put, List.setIfInBounds_toArray, List.set_cons_zero, List.set_cons_succ]
      refine wpAnyH_take (i := 45) (oi := Oper.mk (some 2) (Op.assign (Operand.tmp 51)) 4 "law.go:47" #[Edge.mk 44 Ground.data, Edge.mk 43 Ground.chain, Edge.mk 0 Ground.phase, Edge.mk 1 Ground.phase, Edge.mk 2 Ground.phase, Edge.mk 3 Ground.phase, Edge.mk 4 Ground.phase, Edge.mk 5 Ground.phase, Edge.mk 6 Ground.phase, Edge.mk 7 Ground.phase, Edge.mk 8 Ground.phase, Edge.mk 9 Ground.phase, Edge.mk 10 Ground.phase, Edge.mk 11 Ground.phase, Edge.mk 12 Ground.phase, Edge.mk 13 Ground.phase, Edge.mk 14 Ground.phase, Edge.mk 15 Ground.phase, Edge.mk 16 Ground.phase, Edge.mk 17 Ground.phase, Edge.mk 18 Ground.phase, Edge.mk 19 Ground.phase, Edge.mk 20 Ground.phase, Edge.mk 21 Ground.phase, Edge.mk 22 Ground.phase, Edge.mk 23 Ground.phase, Edge.mk 24 Ground.phase, Edge.mk 25 Ground.phase, Edge.mk 26 Ground.phase, Edge.mk 27 Ground.phase, Edge.mk 28 Ground.phase, Edge.mk 29 Ground.phase, Edge.mk 30 Ground.phase, Edge.mk 31 Ground.phase, Edge.mk 32 Ground.phase, Edge.mk 33 Ground.phase, Edge.mk 34 Ground.phase, Edge.mk 35 Ground.phase, Edge.mk 36 Ground.phase, Edge.mk 37 Ground.phase, Edge.mk 38 Ground.phase, Edge.mk 39 Ground.phase, Edge.mk 40 Ground.phase, Edge.mk 41 Ground.phase, Edge.mk 42 Ground.phase, Edge.mk 43 Ground.phase, Edge.mk 44 Ground.phase] none) (v := ?_) rfl (by kernel_rfl) (by kernel_rfl) (by kernel_rfl) (fun _ _ _ h => h) (Or.inl ⟨by rfl, ?_⟩) (by assumption) ?_
      rotate_left 1
      · (intro w hSw; (try dsimp only at hSw); go_simp; (try with_reducible rfl))
      try simp only [Act.put, List.setIfInBounds_toArray, List.set_cons_zero, List.set_cons_succ]
      refine wpAnyH_done (by kernel_rfl) ?_ _
      all_goals (go_split_ands; go_wp2_with fail; (try go_wp2); go_ret; exact ⟨rfl, HBU.out.trans (HBf.out.mono HBU.out.size)⟩)
    · skip
      by_cases h5 : k = 5
      · have hE : decide (k = 2 ∨ k = 3) = false := by simp; omega
        have hL : decide (k = 5 ∨ k = 6) = true := by simp; omega
        rw [hE] at CE0
        rw [hL] at CL0
        have CE := Lib.hid CE0
        have CL := Lib.hid CL0
        have b2 : (k == 2) = false := by simp; omega
        have b3 : (k == 3) = false := by simp; omega
        have b5 : (k == 5) = true := by simp; omega
        have b6 : (k == 6) = false := by simp; omega
        clear hE hL CE0 CL0 h2 h3 h5
        go_enter Try.func3, Try.ntmps3
        go_wp2_with fail
        rw [← HW0.out]
        (with_reducible refine (awake_any _).mono ?_)
        rintro e w1 ⟨rfl, hb1⟩
        have hl1 := HL0.out.below hb1
        obtain ⟨U, hU⟩ : ∃ U, U = w1.alloc (.cells #[.int .i64 k, .int .i64 m, .int .i64 x, .int .i64 y] 25) := ⟨_, rfl⟩
        have hlu : Blk U za 23 #[.int .i64 k, .int .i64 m, .int .i64 x, .int .i64 y] := by rw [hU, HZA.out]; exact hl1.alloc _
        obtain ⟨zb, hzb⟩ : ∃ z, z = w1.heap.size := ⟨_, rfl⟩
        have hlb : Blk U zb 25 #[.int .i64 k, .int .i64 m, .int .i64 x, .int .i64 y] := by rw [hU, hzb]; exact Blk.new w1 _ _
        have HBU : Hid (Below w.heap.size w U) := by show Below _ _ _; rw [hU]; exact below_more (HB0.out.trans (hb1.mono HB0.out.size)) _
        have e0 := hl1.cell 0 (v := .int .i64 k) rfl
        have e1 := hl1.cell 1 (v := .int .i64 m) rfl
        have e2 := hl1.cell 2 (v := .int .i64 x) rfl
        have e3 := hl1.cell 3 (v := .int .i64 y) rfl
        have HU := Lib.hid hU
        have HZB := Lib.hid hzb
        have f0 := hlb.cell 0 (v := .int .i64 k) rfl
        have f1 := hlb.cell 1 (v := .int .i64 m) rfl
        have f2 := hlb.cell 2 (v := .int .i64 x) rfl
        have f3 := hlb.cell 3 (v := .int .i64 y) rfl
        have g0 := hlu.cell 0 (v := .int .i64 k) rfl
        have g1 := hlu.cell 1 (v := .int .i64 m) rfl
        have g2 := hlu.cell 2 (v := .int .i64 x) rfl
        have g3 := hlu.cell 3 (v := .int .i64 y) rfl
        have kb : zb < U.heap.size := hlb.lt
        have ka : za < U.heap.size := hlu.lt
        clear hU hzb hlu hlb hl1 hb1
        go_upto_region 4 with fail
        rw [← HU.out, ← HZB.out, ← HZA.out]
        clear e0 e1 e2 e3
        have HBB := Below.refl U.heap.size U
        refine wp_region_held_drew (S := (fun w' => w'.cell? ⟨zb, 0, none⟩ = some (.int .i64 k) ∧ w'.cell? ⟨zb, 1, none⟩ = some (.int .i64 m) ∧ w'.cell? ⟨zb, 2, none⟩ = some (.int .i64 x) ∧ w'.cell? ⟨zb, 3, none⟩ = some (.int .i64 y) ∧ w'.cell? ⟨za, 0, none⟩ = some (.int .i64 k) ∧ w'.cell? ⟨za, 1, none⟩ = some (.int .i64 m) ∧ w'.cell? ⟨za, 2, none⟩ = some (.int .i64 x) ∧ w'.cell? ⟨za, 3, none⟩ = some (.int .i64 y) ∧ Below U.heap.size U w')) (by kernel_rfl) ?_ (fun hH0 => ?_)
        · ((try dsimp only); (first | (refine ⟨?_, ?_, ?_, ?_, ?_, ?_, ?_, ?_, ?_⟩ <;> first | with_reducible assumption | with_reducible exact Below_drew HBB | exact Below_drew HBB | exact below_heap HBB rfl rfl rfl rfl | assumption) | go_keep))
        refine wpAnyH_take (i := 0) (oi := Oper.mk (some 7) (Op.load 25 (Operand.tmp 3)) 25 "law.go:47" #[] none) (v := ?_) rfl (by kernel_rfl) (by kernel_rfl) (by kernel_rfl) (fun _ _ _ h => h) (Or.inl ⟨by rfl, ?_⟩) (by assumption) ?_
        rotate_left 1
        · (intro w hSw; (try dsimp only at hSw); go_simp; (try with_reducible rfl))
        try simp only [Act.put, List.setIfInBounds_toArray, List.set_cons_zero, List.set_cons_succ]
        refine wpAnyH_take (i := 2) (oi := Oper.mk (some 9) (Op.load 23 (Operand.tmp 1)) 23 "law.go:47" #[] none) (v := ?_) rfl (by kernel_rfl) (by kernel_rfl) (by kernel_rfl) (fun _ _ _ h => h) (Or.inl ⟨by rfl, ?_⟩) (by assumption) ?_
        rotate_left 1
        · (intro w hSw; (try dsimp only at hSw); go_simp; (try with_reducible rfl))
        try simp only [Act.put, List.setIfInBounds_toArray, List.set_cons_zero, List.set_cons_succ]
        refine wpAnyH_ready (rs := [1]) (by kernel_rfl) (by simp) ?_
        refine AllReadyH.cons (o := Oper.mk (some 8) (Op.call (Call.mk (Callee.value (Operand.func 6)) #[Operand.tmp 7] #[25])) 4 "law.go:47" #[Edge.mk 0 Ground.data] none) rfl (fun K hK => ?_) AllReadyH.nil
        go_simp
        (go_at_call 6; go_split_ands; (with_reducible refine (CM.out _).mono ?_); rintro e9 v1w ⟨rfl, hb⟩; have B : Below U.heap.size U v1w := below_join (by assumption) hb; have r0 := (B.cell (p := ⟨zb, 0, none⟩) kb).trans f0; have r1 := (B.cell (p := ⟨zb, 1, none⟩) kb).trans f1; have r2 := (B.cell (p := ⟨zb, 2, none⟩) kb).trans f2; have r3 := (B.cell (p := ⟨zb, 3, none⟩) kb).trans f3; have r4 := (B.cell (p := ⟨za, 0, none⟩) ka).trans g0; have r5 := (B.cell (p := ⟨za, 1, none⟩) ka).trans g1; have r6 := (B.cell (p := ⟨za, 2, none⟩) ka).trans g2; have r7 := (B.cell (p := ⟨za, 3, none⟩) ka).trans g3; clear hb)
        go_wp2_with fail
        refine hK.out _ _ ?_ (fun hH1 => ?_)
        · ((try dsimp only); (first | (refine ⟨?_, ?_, ?_, ?_, ?_, ?_, ?_, ?_, ?_⟩ <;> first | with_reducible assumption | with_reducible exact Below_drew HBB | exact Below_drew HBB | exact below_heap HBB rfl rfl rfl rfl | assumption) | go_keep))
        clear hK K
        try clear hH0
        try simp only [Act.put, List.setIfInBounds_toArray, List.set_cons_zero, List.set_cons_succ]
        refine wpAnyH_ready (rs := [3]) (by kernel_rfl) (by simp) ?_
        refine AllReadyH.cons (o := Oper.mk (some 10) (Op.call (Call.mk (Callee.value (Operand.func 7)) #[Operand.tmp 9] #[23])) 4 "law.go:47" #[Edge.mk 2 Ground.data, Edge.mk 1 Ground.chain] none) rfl (fun K hK => ?_) AllReadyH.nil
        go_simp
        (go_at_call 7; go_split_ands; (with_reducible refine (CRM.out _).mono ?_); rintro e9 v2w ⟨rfl, hb⟩; have B : Below U.heap.size U v2w := below_join (by assumption) hb; have r0 := (B.cell (p := ⟨zb, 0, none⟩) kb).trans f0; have r1 := (B.cell (p := ⟨zb, 1, none⟩) kb).trans f1; have r2 := (B.cell (p := ⟨zb, 2, none⟩) kb).trans f2; have r3 := (B.cell (p := ⟨zb, 3, none⟩) kb).trans f3; have r4 := (B.cell (p := ⟨za, 0, none⟩) ka).trans g0; have r5 := (B.cell (p := ⟨za, 1, none⟩) ka).trans g1; have r6 := (B.cell (p := ⟨za, 2, none⟩) ka).trans g2; have r7 := (B.cell (p := ⟨za, 3, none⟩) ka).trans g3; clear hb)
        go_wp2_with fail
        refine hK.out _ _ ?_ (fun hH2 => ?_)
        · ((try dsimp only); (first | (refine ⟨?_, ?_, ?_, ?_, ?_, ?_, ?_, ?_, ?_⟩ <;> first | with_reducible assumption | with_reducible exact Below_drew HBB | exact Below_drew HBB | exact below_heap HBB rfl rfl rfl rfl | assumption) | go_keep))
        clear hK K
        try clear hH1
        try simp only [Act.put, List.setIfInBounds_toArray, List.set_cons_zero, List.set_cons_succ]
        refine wpAnyH_take (i := 4) (oi := Oper.mk (some 11) (Op.binOp BinOp.eql 4 (Operand.tmp 8) (Operand.tmp 10) 4) 4 "law.go:47" #[Edge.mk 1 Ground.data, Edge.mk 3 Ground.data] none) (v := ?_) rfl (by kernel_rfl) (by kernel_rfl) (by kernel_rfl) (fun _ _ _ h => h) (Or.inl ⟨by rfl, ?_⟩) (by assumption) ?_
        rotate_left 1
        · (intro w hSw; (try dsimp only at hSw); go_simp; (try with_reducible rfl))
        try simp only [Act.put, List.setIfInBounds_toArray, List.set_cons_zero, List.set_cons_succ]
        refine wpAnyH_take (i := 5) (oi := Oper.mk (some 12) (Op.move (Operand.tmp 11)) 4 "law.go:47" #[Edge.mk 4 Ground.data, Edge.mk 3 Ground.chain] none) (v := ?_) rfl (by kernel_rfl) (by kernel_rfl) (by kernel_rfl) (fun _ _ _ h => h) (Or.inl ⟨by rfl, ?_⟩) (by assumption) ?_
        rotate_left 1
        · (intro w hSw; (try dsimp only at hSw); go_simp; (try with_reducible rfl))
        try simp only [Act.put, List.setIfInBounds_toArray, List.set_cons_zero, List.set_cons_succ]
        refine wpAnyH_take (i := 6) (oi := Oper.mk (some 13) (Op.load 25 (Operand.tmp 3)) 25 "law.go:47" #[Edge.mk 5 Ground.guard] (some (5, true))) (v := ?_) rfl (by kernel_rfl) (by kernel_rfl) (by kernel_rfl) (fun _ _ _ h => h) (Or.inl ⟨by rfl, ?_⟩) (by assumption) ?_
        rotate_left 1
        · (intro w hSw; (try dsimp only at hSw); go_simp; (try with_reducible rfl))
        try simp only [Act.put, List.setIfInBounds_toArray, List.set_cons_zero, List.set_cons_succ]
        refine wpAnyH_take (i := 8) (oi := Oper.mk (some 15) (Op.load 23 (Operand.tmp 1)) 23 "law.go:47" #[Edge.mk 5 Ground.guard] (some (5, true))) (v := ?_) rfl (by kernel_rfl) (by kernel_rfl) (by kernel_rfl) (fun _ _ _ h => h) (Or.inl ⟨by rfl, ?_⟩) (by assumption) ?_
        rotate_left 1
        · (intro w hSw; (try dsimp only at hSw); go_simp; (try with_reducible rfl))
        try simp only [Act.put, List.setIfInBounds_toArray, List.set_cons_zero, List.set_cons_succ]
        refine wpAnyH_ready (rs := [7]) (by kernel_rfl) (by simp) ?_
        refine AllReadyH.cons (o := Oper.mk (some 14) (Op.call (Call.mk (Callee.value (Operand.func 8)) #[Operand.tmp 13] #[25])) 4 "law.go:47" #[Edge.mk 6 Ground.data, Edge.mk 5 Ground.chain, Edge.mk 5 Ground.guard] (some (5, true))) rfl (fun K hK => ?_) AllReadyH.nil
        go_simp
        (go_at_call 8; go_split_ands; (with_reducible refine (CG.out _).mono ?_); rintro e9 v3w ⟨rfl, hb⟩; have B : Below U.heap.size U v3w := below_join (by assumption) hb; have r0 := (B.cell (p := ⟨zb, 0, none⟩) kb).trans f0; have r1 := (B.cell (p := ⟨zb, 1, none⟩) kb).trans f1; have r2 := (B.cell (p := ⟨zb, 2, none⟩) kb).trans f2; have r3 := (B.cell (p := ⟨zb, 3, none⟩) kb).trans f3; have r4 := (B.cell (p := ⟨za, 0, none⟩) ka).trans g0; have r5 := (B.cell (p := ⟨za, 1, none⟩) ka).trans g1; have r6 := (B.cell (p := ⟨za, 2, none⟩) ka).trans g2; have r7 := (B.cell (p := ⟨za, 3, none⟩) ka).trans g3; clear hb)
        go_wp2_with fail
        refine hK.out _ _ ?_ (fun hH3 => ?_)
        · ((try dsimp only); (first | (refine ⟨?_, ?_, ?_, ?_, ?_, ?_, ?_, ?_, ?_⟩ <;> first | with_reducible assumption | with_reducible exact Below_drew HBB | exact Below_drew HBB | exact below_heap HBB rfl rfl rfl rfl | assumption) | go_keep))
        clear hK K
        try clear hH2
        try simp only [Act.put, List.setIfInBounds_toArray, List.set_cons_zero, List.set_cons_succ]
        refine wpAnyH_ready (rs := [9]) (by kernel_rfl) (by simp) ?_
        refine AllReadyH.cons (o := Oper.mk (some 16) (Op.call (Call.mk (Callee.value (Operand.func 9)) #[Operand.tmp 15] #[23])) 4 "law.go:47" #[Edge.mk 8 Ground.data, Edge.mk 7 Ground.chain, Edge.mk 5 Ground.guard] (some (5, true))) rfl (fun K hK => ?_) AllReadyH.nil
        go_simp
        (go_at_call 9; go_split_ands; (with_reducible refine (CRG.out _).mono ?_); rintro e9 v4w ⟨rfl, hb⟩; have B : Below U.heap.size U v4w := below_join (by assumption) hb; have r0 := (B.cell (p := ⟨zb, 0, none⟩) kb).trans f0; have r1 := (B.cell (p := ⟨zb, 1, none⟩) kb).trans f1; have r2 := (B.cell (p := ⟨zb, 2, none⟩) kb).trans f2; have r3 := (B.cell (p := ⟨zb, 3, none⟩) kb).trans f3; have r4 := (B.cell (p := ⟨za, 0, none⟩) ka).trans g0; have r5 := (B.cell (p := ⟨za, 1, none⟩) ka).trans g1; have r6 := (B.cell (p := ⟨za, 2, none⟩) ka).trans g2; have r7 := (B.cell (p := ⟨za, 3, none⟩) ka).trans g3; clear hb)
        go_wp2_with fail
        refine hK.out _ _ ?_ (fun hH4 => ?_)
        · ((try dsimp only); (first | (refine ⟨?_, ?_, ?_, ?_, ?_, ?_, ?_, ?_, ?_⟩ <;> first | with_reducible assumption | with_reducible exact Below_drew HBB | exact Below_drew HBB | exact below_heap HBB rfl rfl rfl rfl | assumption) | go_keep))
        clear hK K
        try clear hH3
        try simp only [Act.put, List.setIfInBounds_toArray, List.set_cons_zero, List.set_cons_succ]
        refine wpAnyH_take (i := 10) (oi := Oper.mk (some 17) (Op.binOp BinOp.eql 4 (Operand.tmp 14) (Operand.tmp 16) 4) 4 "law.go:47" #[Edge.mk 7 Ground.data, Edge.mk 9 Ground.data, Edge.mk 5 Ground.guard] (some (5, true))) (v := ?_) rfl (by kernel_rfl) (by kernel_rfl) (by kernel_rfl) (fun _ _ _ h => h) (Or.inl ⟨by rfl, ?_⟩) (by assumption) ?_
        rotate_left 1
        · (intro w hSw; (try dsimp only at hSw); go_simp; (try with_reducible rfl))
        try simp only [Act.put, List.setIfInBounds_toArray, List.set_cons_zero, List.set_cons_succ]
        refine wpAnyH_take (i := 11) (oi := Oper.mk (some 18) (Op.pick (Operand.tmp 12) (Operand.tmp 17) (Operand.const (Value.bool false))) 4 "law.go:47" #[Edge.mk 5 Ground.data, Edge.mk 10 Ground.data] none) (v := ?_) rfl (by kernel_rfl) (by kernel_rfl) (by kernel_rfl) (fun _ _ _ h => h) (Or.inl ⟨by rfl, ?_⟩) (by assumption) ?_
        rotate_left 1
        · (intro w hSw; (try dsimp only at hSw); go_simp; (try with_reducible rfl))
        try simp only [Act.put, List.setIfInBounds_toArray, List.set_cons_zero, List.set_cons_succ]
        refine wpAnyH_take (i := 12) (oi := Oper.mk (some 19) (Op.move (Operand.tmp 18)) 4 "law.go:47" #[Edge.mk 11 Ground.data, Edge.mk 9 Ground.chain] none) (v := ?_) rfl (by kernel_rfl) (by kernel_rfl) (by kernel_rfl) (fun _ _ _ h => h) (Or.inl ⟨by rfl, ?_⟩) (by assumption) ?_
        rotate_left 1
        · (intro w hSw; (try dsimp only at hSw); go_simp; (try with_reducible rfl))
        try simp only [Act.put, List.setIfInBounds_toArray, List.set_cons_zero, List.set_cons_succ]
        refine wpAnyH_take (i := 13) (oi := Oper.mk (some 20) (Op.load 25 (Operand.tmp 3)) 25 "law.go:47" #[Edge.mk 12 Ground.guard] (some (12, true))) (v := ?_) rfl (by kernel_rfl) (by kernel_rfl) (by kernel_rfl) (fun _ _ _ h => h) (Or.inl ⟨by rfl, ?_⟩) (by assumption) ?_
        rotate_left 1
        · (intro w hSw; (try dsimp only at hSw); go_simp; (try with_reducible rfl))
        try simp only [Act.put, List.setIfInBounds_toArray, List.set_cons_zero, List.set_cons_succ]
        refine wpAnyH_take (i := 15) (oi := Oper.mk (some 22) (Op.fieldAddr 23 (Operand.tmp 1) 0) 0 "law.go:47" #[Edge.mk 12 Ground.guard] (some (12, true))) (v := ?_) rfl (by kernel_rfl) (by kernel_rfl) (by kernel_rfl) (fun _ _ _ h => h) (Or.inl ⟨by rfl, ?_⟩) (by assumption) ?_
        rotate_left 1
        · (intro w hSw; (try dsimp only at hSw); go_simp; (try with_reducible rfl))
        try simp only [Act.put, List.setIfInBounds_toArray, List.set_cons_zero, List.set_cons_succ]
        refine wpAnyH_take (i := 16) (oi := Oper.mk (some 23) (Op.load 3 (Operand.tmp 22)) 3 "law.go:47" #[Edge.mk 15 Ground.data, Edge.mk 12 Ground.guard] (some (12, true))) (v := ?_) rfl (by kernel_rfl) (by kernel_rfl) (by kernel_rfl) (fun _ _ _ h => h) (Or.inl ⟨by rfl, ?_⟩) (by assumption) ?_
        rotate_left 1
        · (intro w hSw; (try dsimp only at hSw); go_simp; (try with_reducible rfl))
        try simp only [Act.put, List.setIfInBounds_toArray, List.set_cons_zero, List.set_cons_succ]
        refine wpAnyH_take (i := 17) (oi := Oper.mk (some 24) (Op.binOp BinOp.eql 3 (Operand.tmp 23) (Operand.const (Value.int IntKind.i64 2)) 3) 4 "law.go:47" #[Edge.mk 16 Ground.data, Edge.mk 12 Ground.guard] (some (12, true))) (v := ?_) rfl (by kernel_rfl) (by kernel_rfl) (by kernel_rfl) (fun _ _ _ h => h) (Or.inl ⟨by rfl, ?_⟩) (by assumption) ?_
        rotate_left 1
        · (intro w hSw; (try dsimp only at hSw); go_simp; (try with_reducible rfl))
        try simp only [Act.put, List.setIfInBounds_toArray, List.set_cons_zero, List.set_cons_succ]
        refine wpAnyH_ready (rs := [14]) (by kernel_rfl) (by simp) ?_
        refine AllReadyH.cons (o := Oper.mk (some 21) (Op.call (Call.mk (Callee.value (Operand.func 10)) #[Operand.tmp 20] #[25])) 4 "law.go:47" #[Edge.mk 13 Ground.data, Edge.mk 12 Ground.chain, Edge.mk 12 Ground.guard] (some (12, true))) rfl (fun K hK => ?_) AllReadyH.nil
        go_simp
        (go_at_call 10; go_split_ands; (with_reducible refine (CE.out _).mono ?_); rintro e9 v5w ⟨rfl, hb⟩; have B : Below U.heap.size U v5w := below_join (by assumption) hb; have r0 := (B.cell (p := ⟨zb, 0, none⟩) kb).trans f0; have r1 := (B.cell (p := ⟨zb, 1, none⟩) kb).trans f1; have r2 := (B.cell (p := ⟨zb, 2, none⟩) kb).trans f2; have r3 := (B.cell (p := ⟨zb, 3, none⟩) kb).trans f3; have r4 := (B.cell (p := ⟨za, 0, none⟩) ka).trans g0; have r5 := (B.cell (p := ⟨za, 1, none⟩) ka).trans g1; have r6 := (B.cell (p := ⟨za, 2, none⟩) ka).trans g2; have r7 := (B.cell (p := ⟨za, 3, none⟩) ka).trans g3; clear hb)
        go_wp2_with fail
        refine hK.out _ _ ?_ (fun hH5 => ?_)
        · ((try dsimp only); (first | (refine ⟨?_, ?_, ?_, ?_, ?_, ?_, ?_, ?_, ?_⟩ <;> first | with_reducible assumption | with_reducible exact Below_drew HBB | exact Below_drew HBB | exact below_heap HBB rfl rfl rfl rfl | assumption) | go_keep))
        clear hK K
        try clear hH4
        try simp only [Act.put, List.setIfInBounds_toArray, List.set_cons_zero, List.set_cons_succ]
        refine wpAnyH_take (i := 18) (oi := Oper.mk (some 25) (Op.move (Operand.tmp 24)) 4 "law.go:47" #[Edge.mk 17 Ground.data, Edge.mk 14 Ground.chain, Edge.mk 12 Ground.guard] (some (12, true))) (v := ?_) rfl (by kernel_rfl) (by kernel_rfl) (by kernel_rfl) (fun _ _ _ h => h) (Or.inl ⟨by rfl, ?_⟩) (by assumption) ?_
        rotate_left 1
        · (intro w hSw; (try dsimp only at hSw); go_simp; (try with_reducible rfl))
        try simp only [Act.put, List.setIfInBounds_toArray, List.set_cons_zero, List.set_cons_succ]
        refine wpAnyH_take (i := 19) (oi := Oper.mk (some 26) (Op.fieldAddr 23 (Operand.tmp 1) 0) 0 "law.go:47" #[Edge.mk 18 Ground.guard] (some (18, false))) (v := ?_) rfl (by kernel_rfl) (by kernel_rfl) (by kernel_rfl) (fun _ _ _ h => h) (Or.inl ⟨by rfl, ?_⟩) (by assumption) ?_
        rotate_left 1
        · (intro w hSw; (try dsimp only at hSw); go_simp; (try with_reducible rfl))
        try simp only [Act.put, List.setIfInBounds_toArray, List.set_cons_zero, List.set_cons_succ]
        refine wpAnyH_take (i := 20) (oi := Oper.mk (some 27) (Op.load 3 (Operand.tmp 26)) 3 "law.go:47" #[Edge.mk 19 Ground.data, Edge.mk 18 Ground.guard] (some (18, false))) (v := ?_) rfl (by kernel_rfl) (by kernel_rfl) (by kernel_rfl) (fun _ _ _ h => h) (Or.inl ⟨by rfl, ?_⟩) (by assumption) ?_
        rotate_left 1
        · (intro w hSw; (try dsimp only at hSw); go_simp; (try with_reducible rfl))
        try simp only [Act.put, List.setIfInBounds_toArray, List.set_cons_zero, List.set_cons_succ]
        refine wpAnyH_take (i := 21) (oi := Oper.mk (some 28) (Op.binOp BinOp.eql 3 (Operand.tmp 27) (Operand.const (Value.int IntKind.i64 3)) 3) 4 "law.go:47" #[Edge.mk 20 Ground.data, Edge.mk 18 Ground.guard] (some (18, false))) (v := ?_) rfl (by kernel_rfl) (by kernel_rfl) (by kernel_rfl) (fun _ _ _ h => h) (Or.inl ⟨by rfl, ?_⟩) (by assumption) ?_
        rotate_left 1
        · (intro w hSw; (try dsimp only at hSw); go_simp; (try with_reducible rfl))
        try simp only [Act.put, List.setIfInBounds_toArray, List.set_cons_zero, List.set_cons_succ]
        refine wpAnyH_take (i := 22) (oi := Oper.mk (some 29) (Op.pick (Operand.tmp 25) (Operand.const (Value.bool true)) (Operand.tmp 28)) 4 "law.go:47" #[Edge.mk 18 Ground.data, Edge.mk 21 Ground.data, Edge.mk 12 Ground.guard] (some (12, true))) (v := ?_) rfl (by kernel_rfl) (by kernel_rfl) (by kernel_rfl) (fun _ _ _ h => h) (Or.inl ⟨by rfl, ?_⟩) (by assumption) ?_
        rotate_left 1
        · (intro w hSw; (try dsimp only at hSw); go_simp; (try with_reducible rfl))
        try simp only [Act.put, List.setIfInBounds_toArray, List.set_cons_zero, List.set_cons_succ]
        refine wpAnyH_take (i := 23) (oi := Oper.mk (some 30) (Op.binOp BinOp.eql 4 (Operand.tmp 21) (Operand.tmp 29) 4) 4 "law.go:47" #[Edge.mk 14 Ground.data, Edge.mk 22 Ground.data, Edge.mk 12 Ground.guard] (some (12, true))) (v := ?_) rfl (by kernel_rfl) (by kernel_rfl) (by kernel_rfl) (fun _ _ _ h => h) (Or.inl ⟨by rfl, ?_⟩) (by assumption) ?_
        rotate_left 1
        · (intro w hSw; (try dsimp only at hSw); go_simp; (try with_reducible rfl))
        try simp only [Act.put, List.setIfInBounds_toArray, List.set_cons_zero, List.set_cons_succ]
        refine wpAnyH_take (i := 24) (oi := Oper.mk (some 31) (Op.pick (Operand.tmp 19) (Operand.tmp 30) (Operand.const (Value.bool false))) 4 "law.go:47" #[Edge.mk 12 Ground.data, Edge.mk 23 Ground.data] none) (v := ?_) rfl (by kernel_rfl) (by kernel_rfl) (by kernel_rfl) (fun _ _ _ h => h) (Or.inl ⟨by rfl, ?_⟩) (by assumption) ?_
        rotate_left 1
        · (intro w hSw; (try dsimp only at hSw); go_simp; (try with_reducible rfl))
        try simp only [Act.put, List.setIfInBounds_toArray, List.set_cons_zero, List.set_cons_succ]
        refine wpAnyH_take (i := 25) (oi := Oper.mk (some 32) (Op.move (Operand.tmp 31)) 4 "law.go:47" #[Edge.mk 24 Ground.data, Edge.mk 18 Ground.chain] none) (v := ?_) rfl (by kernel_rfl) (by kernel_rfl) (by kernel_rfl) (fun _ _ _ h => h) (Or.inl ⟨by rfl, ?_⟩) (by assumption) ?_
        rotate_left 1
        · (intro w hSw; (try dsimp only at hSw); go_simp; (try with_reducible rfl))
        try simp only [Act.put, List.setIfInBounds_toArray, List.set_cons_zero, List.set_cons_succ]
        refine wpAnyH_take (i := 26) (oi := Oper.mk (some 33) (Op.load 25 (Operand.tmp 3)) 25 "law.go:47" #[Edge.mk 25 Ground.guard] (some (25, true))) (v := ?_) rfl (by kernel_rfl) (by kernel_rfl) (by kernel_rfl) (fun _ _ _ h => h) (Or.inl ⟨by rfl, ?_⟩) (by assumption) ?_
        rotate_left 1
        · (intro w hSw; (try dsimp only at hSw); go_simp; (try with_reducible rfl))
        try simp only [Act.put, List.setIfInBounds_toArray, List.set_cons_zero, List.set_cons_succ]
        refine wpAnyH_take (i := 28) (oi := Oper.mk (some 35) (Op.fieldAddr 23 (Operand.tmp 1) 0) 0 "law.go:47" #[Edge.mk 25 Ground.guard] (some (25, true))) (v := ?_) rfl (by kernel_rfl) (by kernel_rfl) (by kernel_rfl) (fun _ _ _ h => h) (Or.inl ⟨by rfl, ?_⟩) (by assumption) ?_
        rotate_left 1
        · (intro w hSw; (try dsimp only at hSw); go_simp; (try with_reducible rfl))
        try simp only [Act.put, List.setIfInBounds_toArray, List.set_cons_zero, List.set_cons_succ]
        refine wpAnyH_take (i := 29) (oi := Oper.mk (some 36) (Op.load 3 (Operand.tmp 35)) 3 "law.go:47" #[Edge.mk 28 Ground.data, Edge.mk 25 Ground.guard] (some (25, true))) (v := ?_) rfl (by kernel_rfl) (by kernel_rfl) (by kernel_rfl) (fun _ _ _ h => h) (Or.inl ⟨by rfl, ?_⟩) (by assumption) ?_
        rotate_left 1
        · (intro w hSw; (try dsimp only at hSw); go_simp; (try with_reducible rfl))
        try simp only [Act.put, List.setIfInBounds_toArray, List.set_cons_zero, List.set_cons_succ]
        refine wpAnyH_take (i := 30) (oi := Oper.mk (some 37) (Op.binOp BinOp.eql 3 (Operand.tmp 36) (Operand.const (Value.int IntKind.i64 5)) 3) 4 "law.go:47" #[Edge.mk 29 Ground.data, Edge.mk 25 Ground.guard] (some (25, true))) (v := ?_) rfl (by kernel_rfl) (by kernel_rfl) (by kernel_rfl) (fun _ _ _ h => h) (Or.inl ⟨by rfl, ?_⟩) (by assumption) ?_
        rotate_left 1
        · (intro w hSw; (try dsimp only at hSw); go_simp; (try with_reducible rfl))
        try simp only [Act.put, List.setIfInBounds_toArray, List.set_cons_zero, List.set_cons_succ]
        refine wpAnyH_ready (rs := [27]) (by kernel_rfl) (by simp) ?_
        refine AllReadyH.cons (o := Oper.mk (some 34) (Op.call (Call.mk (Callee.value (Operand.func 11)) #[Operand.tmp 33] #[25])) 4 "law.go:47" #[Edge.mk 26 Ground.data, Edge.mk 25 Ground.chain, Edge.mk 25 Ground.guard] (some (25, true))) rfl (fun K hK => ?_) AllReadyH.nil
        go_simp
        (go_at_call 11; go_split_ands; (with_reducible refine (CL.out _).mono ?_); rintro e9 v6w ⟨rfl, hb⟩; have B : Below U.heap.size U v6w := below_join (by assumption) hb; have r0 := (B.cell (p := ⟨zb, 0, none⟩) kb).trans f0; have r1 := (B.cell (p := ⟨zb, 1, none⟩) kb).trans f1; have r2 := (B.cell (p := ⟨zb, 2, none⟩) kb).trans f2; have r3 := (B.cell (p := ⟨zb, 3, none⟩) kb).trans f3; have r4 := (B.cell (p := ⟨za, 0, none⟩) ka).trans g0; have r5 := (B.cell (p := ⟨za, 1, none⟩) ka).trans g1; have r6 := (B.cell (p := ⟨za, 2, none⟩) ka).trans g2; have r7 := (B.cell (p := ⟨za, 3, none⟩) ka).trans g3; clear hb)
        go_wp2_with fail
        refine hK.out _ _ ?_ (fun hH6 => ?_)
        · ((try dsimp only); (first | (refine ⟨?_, ?_, ?_, ?_, ?_, ?_, ?_, ?_, ?_⟩ <;> first | with_reducible assumption | with_reducible exact Below_drew HBB | exact Below_drew HBB | exact below_heap HBB rfl rfl rfl rfl | assumption) | go_keep))
        clear hK K
        try clear hH5
        try simp only [Act.put, List.setIfInBounds_toArray, List.set_cons_zero, List.set_cons_succ]
        refine wpAnyH_take (i := 31) (oi := Oper.mk (some 38) (Op.move (Operand.tmp 37)) 4 "law.go:47" #[Edge.mk 30 Ground.data, Edge.mk 27 Ground.chain, Edge.mk 25 Ground.guard] (some (25, true))) (v := ?_) rfl (by kernel_rfl) (by kernel_rfl) (by kernel_rfl) (fun _ _ _ h => h) (Or.inl ⟨by rfl, ?_⟩) (by assumption) ?_
        rotate_left 1
        · (intro w hSw; (try dsimp only at hSw); go_simp; (try with_reducible rfl))
        try simp only [Act.put, List.setIfInBounds_toArray, List.set_cons_zero, List.set_cons_succ]
        refine wpAnyH_take (i := 32) (oi := Oper.mk (some 39) (Op.fieldAddr 23 (Operand.tmp 1) 0) 0 "law.go:47" #[Edge.mk 31 Ground.guard] (some (31, false))) (v := undef) rfl (by kernel_rfl) (by kernel_rfl) (by kernel_rfl) (fun _ _ _ h => h) (Or.inr ⟨by rfl, rfl⟩) (by assumption) ?_
        try simp only [Act.put, List.setIfInBounds_toArray, List.set_cons_zero, List.set_cons_succ]
        refine wpAnyH_take (i := 33) (oi := Oper.mk (some 40) (Op.load 3 (Operand.tmp 39)) 3 "law.go:47" #[Edge.mk 32 Ground.data, Edge.mk 31 Ground.guard] (some (31, false))) (v := undef) rfl (by kernel_rfl) (by kernel_rfl) (by kernel_rfl) (fun _ _ _ h => h) (Or.inr ⟨by rfl, rfl⟩) (by assumption) ?_
        try simp only [Act.put, List.setIfInBounds_toArray, List.set_cons_zero, List.set_cons_succ]
        refine wpAnyH_take (i := 34) (oi := Oper.mk (some 41) (Op.binOp BinOp.eql 3 (Operand.tmp 40) (Operand.const (Value.int IntKind.i64 6)) 3) 4 "law.go:47" #[Edge.mk 33 Ground.data, Edge.mk 31 Ground.guard] (some (31, false))) (v := undef) rfl (by kernel_rfl) (by kernel_rfl) (by kernel_rfl) (fun _ _ _ h => h) (Or.inr ⟨by rfl, rfl⟩) (by assumption) ?_
        try simp only [Act.put, List.setIfInBounds_toArray, List.set_cons_zero, List.set_cons_succ]
        refine wpAnyH_take (i := 35) (oi := Oper.mk (some 42) (Op.pick (Operand.tmp 38) (Operand.const (Value.bool true)) (Operand.tmp 41)) 4 "law.go:47" #[Edge.mk 31 Ground.data, Edge.mk 34 Ground.data, Edge.mk 25 Ground.guard] (some (25, true))) (v := ?_) rfl (by kernel_rfl) (by kernel_rfl) (by kernel_rfl) (fun _ _ _ h => h) (Or.inl ⟨by rfl, ?_⟩) (by assumption) ?_
        rotate_left 1
        · (intro w hSw; (try dsimp only at hSw); go_simp; (try with_reducible rfl))
        try simp only [Act.put, List.setIfInBounds_toArray, List.set_cons_zero, List.set_cons_succ]
        refine wpAnyH_take (i := 36) (oi := Oper.mk (some 43) (Op.binOp BinOp.eql 4 (Operand.tmp 34) (Operand.tmp 42) 4) 4 "law.go:47" #[Edge.mk 27 Ground.data, Edge.mk 35 Ground.data, Edge.mk 25 Ground.guard] (some (25, true))) (v := ?_) rfl (by kernel_rfl) (by kernel_rfl) (by kernel_rfl) (fun _ _ _ h => h) (Or.inl ⟨by rfl, ?_⟩) (by assumption) ?_
        rotate_left 1
        · (intro w hSw; (try dsimp only at hSw); go_simp; (try with_reducible rfl))
        try simp only [Act.put, List.setIfInBounds_toArray, List.set_cons_zero, List.set_cons_succ]
        refine wpAnyH_take (i := 37) (oi := Oper.mk (some 44) (Op.pick (Operand.tmp 32) (Operand.tmp 43) (Operand.const (Value.bool false))) 4 "law.go:47" #[Edge.mk 25 Ground.data, Edge.mk 36 Ground.data] none) (v := ?_) rfl (by kernel_rfl) (by kernel_rfl) (by kernel_rfl) (fun _ _ _ h => h) (Or.inl ⟨by rfl, ?_⟩) (by assumption) ?_
        rotate_left 1
        · (intro w hSw; (try dsimp only at hSw); go_simp; (try with_reducible rfl))
        try simp only [Act.put, List.setIfInBounds_toArray, List.set_cons_zero, List.set_cons_succ]
        refine wpAnyH_take (i := 38) (oi := Oper.mk (some 45) (Op.move (Operand.tmp 44)) 4 "law.go:47" #[Edge.mk 37 Ground.data, Edge.mk 31 Ground.chain] none) (v := ?_) rfl (by kernel_rfl) (by kernel_rfl) (by kernel_rfl) (fun _ _ _ h => h) (Or.inl ⟨by rfl, ?_⟩) (by assumption) ?_
        rotate_left 1
        · (intro w hSw; (try dsimp only at hSw); go_simp; (try with_reducible rfl))
        try simp only [Act.put, List.setIfInBounds_toArray, List.set_cons_zero, List.set_cons_succ]
        refine wpAnyH_take (i := 39) (oi := Oper.mk (some 46) (Op.load 25 (Operand.tmp 3)) 25 "law.go:47" #[Edge.mk 38 Ground.guard] (some (38, true))) (v := ?_) rfl (by kernel_rfl) (by kernel_rfl) (by kernel_rfl) (fun _ _ _ h => h) (Or.inl ⟨by rfl, ?_⟩) (by assumption) ?_
        rotate_left 1
        · (intro w hSw; (try dsimp only at hSw); go_simp; (try with_reducible rfl))
        try simp only [Act.put, List.setIfInBounds_toArray, List.set_cons_zero, List.set_cons_succ]
        refine wpAnyH_take (i := 41) (oi := Oper.mk (some 48) (Op.load 23 (Operand.tmp 1)) 23 "law.go:47" #[Edge.mk 38 Ground.guard] (some (38, true))) (v := ?_) rfl (by kernel_rfl) (by kernel_rfl) (by kernel_rfl) (fun _ _ _ h => h) (Or.inl ⟨by rfl, ?_⟩) (by assumption) ?_
        rotate_left 1
        · (intro w hSw; (try dsimp only at hSw); go_simp; (try with_reducible rfl))
        try simp only [Act.put, List.setIfInBounds_toArray, List.set_cons_zero, List.set_cons_succ]
        refine wpAnyH_ready (rs := [40]) (by kernel_rfl) (by simp) ?_
        refine AllReadyH.cons (o := Oper.mk (some 47) (Op.call (Call.mk (Callee.value (Operand.func 13)) #[Operand.tmp 46] #[25])) 28 "law.go:47" #[Edge.mk 39 Ground.data, Edge.mk 38 Ground.chain, Edge.mk 38 Ground.guard] (some (38, true))) rfl (fun K hK => ?_) AllReadyH.nil
        go_simp
        (go_at_call 13; go_split_ands; (with_reducible refine (CC.out _).mono ?_); rintro e9 v7w ⟨v7, rfl, ho, hb⟩; obtain ⟨A7, c7, rfl, hc7, hm7, hat⟩ := at_of_own' ho; have HAT7 := Lib.hid hat; have B : Below U.heap.size U v7w := below_join (by assumption) hb; have r0 := (B.cell (p := ⟨zb, 0, none⟩) kb).trans f0; have r1 := (B.cell (p := ⟨zb, 1, none⟩) kb).trans f1; have r2 := (B.cell (p := ⟨zb, 2, none⟩) kb).trans f2; have r3 := (B.cell (p := ⟨zb, 3, none⟩) kb).trans f3; have r4 := (B.cell (p := ⟨za, 0, none⟩) ka).trans g0; have r5 := (B.cell (p := ⟨za, 1, none⟩) ka).trans g1; have r6 := (B.cell (p := ⟨za, 2, none⟩) ka).trans g2; have r7 := (B.cell (p := ⟨za, 3, none⟩) ka).trans g3; have HBw := Lib.hid B; clear hb ho hat)
        go_wp2_with fail
        refine hK.out _ _ ?_ (fun hH7 => ?_)
        · ((try dsimp only); (first | (refine ⟨?_, ?_, ?_, ?_, ?_, ?_, ?_, ?_, ?_⟩ <;> first | with_reducible assumption | with_reducible exact Below_drew HBB | exact Below_drew HBB | exact below_heap HBB rfl rfl rfl rfl | assumption) | go_keep))
        clear hK K
        try clear hH6
        try simp only [Act.put, List.setIfInBounds_toArray, List.set_cons_zero, List.set_cons_succ]
        refine wpAnyH_ready (rs := [42]) (by kernel_rfl) (by simp) ?_
        refine AllReadyH.cons (o := Oper.mk (some 49) (Op.call (Call.mk (Callee.value (Operand.func 14)) #[Operand.tmp 48] #[23])) 28 "law.go:47" #[Edge.mk 41 Ground.data, Edge.mk 40 Ground.chain, Edge.mk 38 Ground.guard] (some (38, true))) rfl (fun K hK => ?_) AllReadyH.nil
        go_simp
        (go_at_call 14; go_split_ands; (with_reducible refine (CRC.out _).mono ?_); rintro e9 v8w ⟨v8, rfl, ho, hb⟩; obtain ⟨A8, c8, rfl, hc8, hm8, hat⟩ := at_of_own' ho; have HAT8 := Lib.hid hat; have B : Below U.heap.size U v8w := below_join (by assumption) hb; have r0 := (B.cell (p := ⟨zb, 0, none⟩) kb).trans f0; have r1 := (B.cell (p := ⟨zb, 1, none⟩) kb).trans f1; have r2 := (B.cell (p := ⟨zb, 2, none⟩) kb).trans f2; have r3 := (B.cell (p := ⟨zb, 3, none⟩) kb).trans f3; have r4 := (B.cell (p := ⟨za, 0, none⟩) ka).trans g0; have r5 := (B.cell (p := ⟨za, 1, none⟩) ka).trans g1; have r6 := (B.cell (p := ⟨za, 2, none⟩) ka).trans g2; have r7 := (B.cell (p := ⟨za, 3, none⟩) ka).trans g3; have HATM := Lib.hid (HAT7.out.below (show Below v7w.heap.size v7w v8w from below_join (by first | exact Below.refl _ _ | exact Below_drew (Below.refl _ _)) hb)); have HBw := Lib.hid B; clear hb ho hat)
        go_wp2_with fail
        refine hK.out _ _ ?_ (fun hH8 => ?_)
        · ((try dsimp only); (first | (refine ⟨?_, ?_, ?_, ?_, ?_, ?_, ?_, ?_, ?_⟩ <;> first | with_reducible assumption | with_reducible exact Below_drew HBB | exact Below_drew HBB | exact below_heap HBB rfl rfl rfl rfl | assumption) | go_keep))
        clear hK K
        try clear hH7
        try simp only [Act.put, List.setIfInBounds_toArray, List.set_cons_zero, List.set_cons_succ]
        refine wpAnyH_ready (rs := [43]) (by kernel_rfl) (by simp) ?_
        refine AllReadyH.cons (o := Oper.mk (some 50) (Op.call (Call.mk (Callee.value (Operand.func 12)) #[Operand.tmp 47, Operand.tmp 49] #[28, 28])) 4 "law.go:47" #[Edge.mk 40 Ground.data, Edge.mk 42 Ground.data, Edge.mk 42 Ground.chain, Edge.mk 38 Ground.guard] (some (38, true))) rfl (fun K hK => ?_) AllReadyH.nil
        go_simp
        (go_at_call 12; go_split_ands; (with_reducible refine (CS.out A7 c7 A8 c8 _ HATM.out HAT8.out).mono ?_); rintro e9 v9w ⟨rfl, q9, rfl⟩; have B : Below U.heap.size U (v8w.drewN q9) := below_heap HBw.out rfl rfl rfl rfl; have r0 : (v8w.drewN q9).cell? ⟨zb, 0, none⟩ = some (.int .i64 k) := (B.cell (p := ⟨zb, 0, none⟩) kb).trans f0; have r1 : (v8w.drewN q9).cell? ⟨zb, 1, none⟩ = some (.int .i64 m) := (B.cell (p := ⟨zb, 1, none⟩) kb).trans f1; have r2 : (v8w.drewN q9).cell? ⟨zb, 2, none⟩ = some (.int .i64 x) := (B.cell (p := ⟨zb, 2, none⟩) kb).trans f2; have r3 : (v8w.drewN q9).cell? ⟨zb, 3, none⟩ = some (.int .i64 y) := (B.cell (p := ⟨zb, 3, none⟩) kb).trans f3; have r4 : (v8w.drewN q9).cell? ⟨za, 0, none⟩ = some (.int .i64 k) := (B.cell (p := ⟨za, 0, none⟩) ka).trans g0; have r5 : (v8w.drewN q9).cell? ⟨za, 1, none⟩ = some (.int .i64 m) := (B.cell (p := ⟨za, 1, none⟩) ka).trans g1; have r6 : (v8w.drewN q9).cell? ⟨za, 2, none⟩ = some (.int .i64 x) := (B.cell (p := ⟨za, 2, none⟩) ka).trans g2; have r7 : (v8w.drewN q9).cell? ⟨za, 3, none⟩ = some (.int .i64 y) := (B.cell (p := ⟨za, 3, none⟩) ka).trans g3; have HBf := Lib.hid B)
        go_wp2_with fail
        refine hK.out _ _ ?_ (fun hH9 => ?_)
        · ((try dsimp only); (first | (refine ⟨?_, ?_, ?_, ?_, ?_, ?_, ?_, ?_, ?_⟩ <;> first | with_reducible assumption | with_reducible exact Below_drew HBB | exact Below_drew HBB | exact below_heap HBB rfl rfl rfl rfl | assumption) | go_keep))
        clear hK K
        try clear hH8
        try simp only [Act.put, List.setIfInBounds_toArray, List.set_cons_zero, List.set_cons_succ]
        refine wpAnyH_take (i := 44) (oi := Oper.mk (some 51) (Op.pick (Operand.tmp 45) (Operand.tmp 50) (Operand.const (Value.bool false))) 4 "law.go:47" #[Edge.mk 38 Ground.data, Edge.mk 43 Ground.data] none) (v := ?_) rfl (by kernel_rfl) (by kernel_rfl) (by kernel_rfl) (fun _ _ _ h => h) (Or.inl ⟨by rfl, ?_⟩) (by assumption) ?_
        rotate_left 1
        · (intro w hSw; (try dsimp only at hSw); go_simp; (try with_reducible rfl))
        try simp only [Act.put, List.setIfInBounds_toArray, List.set_cons_zero, List.set_cons_succ]
        refine wpAnyH_take (i := 45) (oi := Oper.mk (some 2) (Op.assign (Operand.tmp 51)) 4 "law.go:47" #[Edge.mk 44 Ground.data, Edge.mk 43 Ground.chain, Edge.mk 0 Ground.phase, Edge.mk 1 Ground.phase, Edge.mk 2 Ground.phase, Edge.mk 3 Ground.phase, Edge.mk 4 Ground.phase, Edge.mk 5 Ground.phase, Edge.mk 6 Ground.phase, Edge.mk 7 Ground.phase, Edge.mk 8 Ground.phase, Edge.mk 9 Ground.phase, Edge.mk 10 Ground.phase, Edge.mk 11 Ground.phase, Edge.mk 12 Ground.phase, Edge.mk 13 Ground.phase, Edge.mk 14 Ground.phase, Edge.mk 15 Ground.phase, Edge.mk 16 Ground.phase, Edge.mk 17 Ground.phase, Edge.mk 18 Ground.phase, Edge.mk 19 Ground.phase, Edge.mk 20 Ground.phase, Edge.mk 21 Ground.phase, Edge.mk 22 Ground.phase, Edge.mk 23 Ground.phase, Edge.mk 24 Ground.phase, Edge.mk 25 Ground.phase, Edge.mk 26 Ground.phase, Edge.mk 27 Ground.phase, Edge.mk 28 Ground.phase, Edge.mk 29 Ground.phase, Edge.mk 30 Ground.phase, Edge.mk 31 Ground.phase, Edge.mk 32 Ground.phase, Edge.mk 33 Ground.phase, Edge.mk 34 Ground.phase, Edge.mk 35 Ground.phase, Edge.mk 36 Ground.phase, Edge.mk 37 Ground.phase, Edge.mk 38 Ground.phase, Edge.mk 39 Ground.phase, Edge.mk 40 Ground.phase, Edge.mk 41 Ground.phase, Edge.mk 42 Ground.phase, Edge.mk 43 Ground.phase, Edge.mk 44 Ground.phase] none) (v := ?_) rfl (by kernel_rfl) (by kernel_rfl) (by kernel_rfl) (fun _ _ _ h => h) (Or.inl ⟨by rfl, ?_⟩) (by assumption) ?_
        rotate_left 1
        · (intro w hSw; (try dsimp only at hSw); go_simp; (try with_reducible rfl))
        try simp only [Act.put, List.setIfInBounds_toArray, List.set_cons_zero, List.set_cons_succ]
        refine wpAnyH_done (by kernel_rfl) ?_ _
        all_goals (go_split_ands; go_wp2_with fail; (try go_wp2); go_ret; exact ⟨rfl, HBU.out.trans (HBf.out.mono HBU.out.size)⟩)
      · skip
        by_cases h6 : k = 6
        · have hE : decide (k = 2 ∨ k = 3) = false := by simp; omega
          have hL : decide (k = 5 ∨ k = 6) = true := by simp; omega
          rw [hE] at CE0
          rw [hL] at CL0
          have CE := Lib.hid CE0
          have CL := Lib.hid CL0
          have b2 : (k == 2) = false := by simp; omega
          have b3 : (k == 3) = false := by simp; omega
          have b5 : (k == 5) = false := by simp; omega
          have b6 : (k == 6) = true := by simp; omega
          clear hE hL CE0 CL0 h2 h3 h5 h6
          go_enter Try.func3, Try.ntmps3
          go_wp2_with fail
          rw [← HW0.out]
          (with_reducible refine (awake_any _).mono ?_)
          rintro e w1 ⟨rfl, hb1⟩
          have hl1 := HL0.out.below hb1
          obtain ⟨U, hU⟩ : ∃ U, U = w1.alloc (.cells #[.int .i64 k, .int .i64 m, .int .i64 x, .int .i64 y] 25) := ⟨_, rfl⟩
          have hlu : Blk U za 23 #[.int .i64 k, .int .i64 m, .int .i64 x, .int .i64 y] := by rw [hU, HZA.out]; exact hl1.alloc _
          obtain ⟨zb, hzb⟩ : ∃ z, z = w1.heap.size := ⟨_, rfl⟩
          have hlb : Blk U zb 25 #[.int .i64 k, .int .i64 m, .int .i64 x, .int .i64 y] := by rw [hU, hzb]; exact Blk.new w1 _ _
          have HBU : Hid (Below w.heap.size w U) := by show Below _ _ _; rw [hU]; exact below_more (HB0.out.trans (hb1.mono HB0.out.size)) _
          have e0 := hl1.cell 0 (v := .int .i64 k) rfl
          have e1 := hl1.cell 1 (v := .int .i64 m) rfl
          have e2 := hl1.cell 2 (v := .int .i64 x) rfl
          have e3 := hl1.cell 3 (v := .int .i64 y) rfl
          have HU := Lib.hid hU
          have HZB := Lib.hid hzb
          have f0 := hlb.cell 0 (v := .int .i64 k) rfl
          have f1 := hlb.cell 1 (v := .int .i64 m) rfl
          have f2 := hlb.cell 2 (v := .int .i64 x) rfl
          have f3 := hlb.cell 3 (v := .int .i64 y) rfl
          have g0 := hlu.cell 0 (v := .int .i64 k) rfl
          have g1 := hlu.cell 1 (v := .int .i64 m) rfl
          have g2 := hlu.cell 2 (v := .int .i64 x) rfl
          have g3 := hlu.cell 3 (v := .int .i64 y) rfl
          have kb : zb < U.heap.size := hlb.lt
          have ka : za < U.heap.size := hlu.lt
          clear hU hzb hlu hlb hl1 hb1
          go_upto_region 4 with fail
          rw [← HU.out, ← HZB.out, ← HZA.out]
          clear e0 e1 e2 e3
          have HBB := Below.refl U.heap.size U
          refine wp_region_held_drew (S := (fun w' => w'.cell? ⟨zb, 0, none⟩ = some (.int .i64 k) ∧ w'.cell? ⟨zb, 1, none⟩ = some (.int .i64 m) ∧ w'.cell? ⟨zb, 2, none⟩ = some (.int .i64 x) ∧ w'.cell? ⟨zb, 3, none⟩ = some (.int .i64 y) ∧ w'.cell? ⟨za, 0, none⟩ = some (.int .i64 k) ∧ w'.cell? ⟨za, 1, none⟩ = some (.int .i64 m) ∧ w'.cell? ⟨za, 2, none⟩ = some (.int .i64 x) ∧ w'.cell? ⟨za, 3, none⟩ = some (.int .i64 y) ∧ Below U.heap.size U w')) (by kernel_rfl) ?_ (fun hH0 => ?_)
          · ((try dsimp only); (first | (refine ⟨?_, ?_, ?_, ?_, ?_, ?_, ?_, ?_, ?_⟩ <;> first | with_reducible assumption | with_reducible exact Below_drew HBB | exact Below_drew HBB | exact below_heap HBB rfl rfl rfl rfl | assumption) | go_keep))
          refine wpAnyH_take (i := 0) (oi := Oper.mk (some 7) (Op.load 25 (Operand.tmp 3)) 25 "law.go:47" #[] none) (v := ?_) rfl (by kernel_rfl) (by kernel_rfl) (by kernel_rfl) (fun _ _ _ h => h) (Or.inl ⟨by rfl, ?_⟩) (by assumption) ?_
          rotate_left 1
          · (intro w hSw; (try dsimp only at hSw); go_simp; (try with_reducible rfl))
          try simp only [Act.put, List.setIfInBounds_toArray, List.set_cons_zero, List.set_cons_succ]
          refine wpAnyH_take (i := 2) (oi := Oper.mk (some 9) (Op.load 23 (Operand.tmp 1)) 23 "law.go:47" #[] none) (v := ?_) rfl (by kernel_rfl) (by kernel_rfl) (by kernel_rfl) (fun _ _ _ h => h) (Or.inl ⟨by rfl, ?_⟩) (by assumption) ?_
          rotate_left 1
          · (intro w hSw; (try dsimp only at hSw); go_simp; (try with_reducible rfl))
          try simp only [Act.put, List.setIfInBounds_toArray, List.set_cons_zero, List.set_cons_succ]
          refine wpAnyH_ready (rs := [1]) (by kernel_rfl) (by simp) ?_
          refine AllReadyH.cons (o := Oper.mk (some 8) (Op.call (Call.mk (Callee.value (Operand.func 6)) #[Operand.tmp 7] #[25])) 4 "law.go:47" #[Edge.mk 0 Ground.data] none) rfl (fun K hK => ?_) AllReadyH.nil
          go_simp
          (go_at_call 6; go_split_ands; (with_reducible refine (CM.out _).mono ?_); rintro e9 v1w ⟨rfl, hb⟩; have B : Below U.heap.size U v1w := below_join (by assumption) hb; have r0 := (B.cell (p := ⟨zb, 0, none⟩) kb).trans f0; have r1 := (B.cell (p := ⟨zb, 1, none⟩) kb).trans f1; have r2 := (B.cell (p := ⟨zb, 2, none⟩) kb).trans f2; have r3 := (B.cell (p := ⟨zb, 3, none⟩) kb).trans f3; have r4 := (B.cell (p := ⟨za, 0, none⟩) ka).trans g0; have r5 := (B.cell (p := ⟨za, 1, none⟩) ka).trans g1; have r6 := (B.cell (p := ⟨za, 2, none⟩) ka).trans g2; have r7 := (B.cell (p := ⟨za, 3, none⟩) ka).trans g3; clear hb)
          go_wp2_with fail
          refine hK.out _ _ ?_ (fun hH1 => ?_)
          · ((try dsimp only); (first | (refine ⟨?_, ?_, ?_, ?_, ?_, ?_, ?_, ?_, ?_⟩ <;> first | with_reducible assumption | with_reducible exact Below_drew HBB | exact Below_drew HBB | exact below_heap HBB rfl rfl rfl rfl | assumption) | go_keep))
          clear hK K
          try clear hH0
          try simp only [Act.put, List.setIfInBounds_toArray, List.set_cons_zero, List.set_cons_succ]
          refine wpAnyH_ready (rs := [3]) (by kernel_rfl) (by simp) ?_
          refine AllReadyH.cons (o := Oper.mk (some 10) (Op.call (Call.mk (Callee.value (Operand.func 7)) #[Operand.tmp 9] #[23])) 4 "law.go:47" #[Edge.mk 2 Ground.data, Edge.mk 1 Ground.chain] none) rfl (fun K hK => ?_) AllReadyH.nil
          go_simp
          (go_at_call 7; go_split_ands; (with_reducible refine (CRM.out _).mono ?_); rintro e9 v2w ⟨rfl, hb⟩; have B : Below U.heap.size U v2w := below_join (by assumption) hb; have r0 := (B.cell (p := ⟨zb, 0, none⟩) kb).trans f0; have r1 := (B.cell (p := ⟨zb, 1, none⟩) kb).trans f1; have r2 := (B.cell (p := ⟨zb, 2, none⟩) kb).trans f2; have r3 := (B.cell (p := ⟨zb, 3, none⟩) kb).trans f3; have r4 := (B.cell (p := ⟨za, 0, none⟩) ka).trans g0; have r5 := (B.cell (p := ⟨za, 1, none⟩) ka).trans g1; have r6 := (B.cell (p := ⟨za, 2, none⟩) ka).trans g2; have r7 := (B.cell (p := ⟨za, 3, none⟩) ka).trans g3; clear hb)
          go_wp2_with fail
          refine hK.out _ _ ?_ (fun hH2 => ?_)
          · ((try dsimp only); (first | (refine ⟨?_, ?_, ?_, ?_, ?_, ?_, ?_, ?_, ?_⟩ <;> first | with_reducible assumption | with_reducible exact Below_drew HBB | exact Below_drew HBB | exact below_heap HBB rfl rfl rfl rfl | assumption) | go_keep))
          clear hK K
          try clear hH1
          try simp only [Act.put, List.setIfInBounds_toArray, List.set_cons_zero, List.set_cons_succ]
          refine wpAnyH_take (i := 4) (oi := Oper.mk (some 11) (Op.binOp BinOp.eql 4 (Operand.tmp 8) (Operand.tmp 10) 4) 4 "law.go:47" #[Edge.mk 1 Ground.data, Edge.mk 3 Ground.data] none) (v := ?_) rfl (by kernel_rfl) (by kernel_rfl) (by kernel_rfl) (fun _ _ _ h => h) (Or.inl ⟨by rfl, ?_⟩) (by assumption) ?_
          rotate_left 1
          · (intro w hSw; (try dsimp only at hSw); go_simp; (try with_reducible rfl))
          try simp only [Act.put, List.setIfInBounds_toArray, List.set_cons_zero, List.set_cons_succ]
          refine wpAnyH_take (i := 5) (oi := Oper.mk (some 12) (Op.move (Operand.tmp 11)) 4 "law.go:47" #[Edge.mk 4 Ground.data, Edge.mk 3 Ground.chain] none) (v := ?_) rfl (by kernel_rfl) (by kernel_rfl) (by kernel_rfl) (fun _ _ _ h => h) (Or.inl ⟨by rfl, ?_⟩) (by assumption) ?_
          rotate_left 1
          · (intro w hSw; (try dsimp only at hSw); go_simp; (try with_reducible rfl))
          try simp only [Act.put, List.setIfInBounds_toArray, List.set_cons_zero, List.set_cons_succ]
          refine wpAnyH_take (i := 6) (oi := Oper.mk (some 13) (Op.load 25 (Operand.tmp 3)) 25 "law.go:47" #[Edge.mk 5 Ground.guard] (some (5, true))) (v := ?_) rfl (by kernel_rfl) (by kernel_rfl) (by kernel_rfl) (fun _ _ _ h => h) (Or.inl ⟨by rfl, ?_⟩) (by assumption) ?_
          rotate_left 1
          · (intro w hSw; (try dsimp only at hSw); go_simp; (try with_reducible rfl))
          try simp only [Act.put, List.setIfInBounds_toArray, List.set_cons_zero, List.set_cons_succ]
          refine wpAnyH_take (i := 8) (oi := Oper.mk (some 15) (Op.load 23 (Operand.tmp 1)) 23 "law.go:47" #[Edge.mk 5 Ground.guard] (some (5, true))) (v := ?_) rfl (by kernel_rfl) (by kernel_rfl) (by kernel_rfl) (fun _ _ _ h => h) (Or.inl ⟨by rfl, ?_⟩) (by assumption) ?_
          rotate_left 1
          · (intro w hSw; (try dsimp only at hSw); go_simp; (try with_reducible rfl))
          try simp only [Act.put, List.setIfInBounds_toArray, List.set_cons_zero, List.set_cons_succ]
          refine wpAnyH_ready (rs := [7]) (by kernel_rfl) (by simp) ?_
          refine AllReadyH.cons (o := Oper.mk (some 14) (Op.call (Call.mk (Callee.value (Operand.func 8)) #[Operand.tmp 13] #[25])) 4 "law.go:47" #[Edge.mk 6 Ground.data, Edge.mk 5 Ground.chain, Edge.mk 5 Ground.guard] (some (5, true))) rfl (fun K hK => ?_) AllReadyH.nil
          go_simp
          (go_at_call 8; go_split_ands; (with_reducible refine (CG.out _).mono ?_); rintro e9 v3w ⟨rfl, hb⟩; have B : Below U.heap.size U v3w := below_join (by assumption) hb; have r0 := (B.cell (p := ⟨zb, 0, none⟩) kb).trans f0; have r1 := (B.cell (p := ⟨zb, 1, none⟩) kb).trans f1; have r2 := (B.cell (p := ⟨zb, 2, none⟩) kb).trans f2; have r3 := (B.cell (p := ⟨zb, 3, none⟩) kb).trans f3; have r4 := (B.cell (p := ⟨za, 0, none⟩) ka).trans g0; have r5 := (B.cell (p := ⟨za, 1, none⟩) ka).trans g1; have r6 := (B.cell (p := ⟨za, 2, none⟩) ka).trans g2; have r7 := (B.cell (p := ⟨za, 3, none⟩) ka).trans g3; clear hb)
          go_wp2_with fail
          refine hK.out _ _ ?_ (fun hH3 => ?_)
          · ((try dsimp only); (first | (refine ⟨?_, ?_, ?_, ?_, ?_, ?_, ?_, ?_, ?_⟩ <;> first | with_reducible assumption | with_reducible exact Below_drew HBB | exact Below_drew HBB | exact below_heap HBB rfl rfl rfl rfl | assumption) | go_keep))
          clear hK K
          try clear hH2
          try simp only [Act.put, List.setIfInBounds_toArray, List.set_cons_zero, List.set_cons_succ]
          refine wpAnyH_ready (rs := [9]) (by kernel_rfl) (by simp) ?_
          refine AllReadyH.cons (o := Oper.mk (some 16) (Op.call (Call.mk (Callee.value (Operand.func 9)) #[Operand.tmp 15] #[23])) 4 "law.go:47" #[Edge.mk 8 Ground.data, Edge.mk 7 Ground.chain, Edge.mk 5 Ground.guard] (some (5, true))) rfl (fun K hK => ?_) AllReadyH.nil
          go_simp
          (go_at_call 9; go_split_ands; (with_reducible refine (CRG.out _).mono ?_); rintro e9 v4w ⟨rfl, hb⟩; have B : Below U.heap.size U v4w := below_join (by assumption) hb; have r0 := (B.cell (p := ⟨zb, 0, none⟩) kb).trans f0; have r1 := (B.cell (p := ⟨zb, 1, none⟩) kb).trans f1; have r2 := (B.cell (p := ⟨zb, 2, none⟩) kb).trans f2; have r3 := (B.cell (p := ⟨zb, 3, none⟩) kb).trans f3; have r4 := (B.cell (p := ⟨za, 0, none⟩) ka).trans g0; have r5 := (B.cell (p := ⟨za, 1, none⟩) ka).trans g1; have r6 := (B.cell (p := ⟨za, 2, none⟩) ka).trans g2; have r7 := (B.cell (p := ⟨za, 3, none⟩) ka).trans g3; clear hb)
          go_wp2_with fail
          refine hK.out _ _ ?_ (fun hH4 => ?_)
          · ((try dsimp only); (first | (refine ⟨?_, ?_, ?_, ?_, ?_, ?_, ?_, ?_, ?_⟩ <;> first | with_reducible assumption | with_reducible exact Below_drew HBB | exact Below_drew HBB | exact below_heap HBB rfl rfl rfl rfl | assumption) | go_keep))
          clear hK K
          try clear hH3
          try simp only [Act.put, List.setIfInBounds_toArray, List.set_cons_zero, List.set_cons_succ]
          refine wpAnyH_take (i := 10) (oi := Oper.mk (some 17) (Op.binOp BinOp.eql 4 (Operand.tmp 14) (Operand.tmp 16) 4) 4 "law.go:47" #[Edge.mk 7 Ground.data, Edge.mk 9 Ground.data, Edge.mk 5 Ground.guard] (some (5, true))) (v := ?_) rfl (by kernel_rfl) (by kernel_rfl) (by kernel_rfl) (fun _ _ _ h => h) (Or.inl ⟨by rfl, ?_⟩) (by assumption) ?_
          rotate_left 1
          · (intro w hSw; (try dsimp only at hSw); go_simp; (try with_reducible rfl))
          try simp only [Act.put, List.setIfInBounds_toArray, List.set_cons_zero, List.set_cons_succ]
          refine wpAnyH_take (i := 11) (oi := Oper.mk (some 18) (Op.pick (Operand.tmp 12) (Operand.tmp 17) (Operand.const (Value.bool false))) 4 "law.go:47" #[Edge.mk 5 Ground.data, Edge.mk 10 Ground.data] none) (v := ?_) rfl (by kernel_rfl) (by kernel_rfl) (by kernel_rfl) (fun _ _ _ h => h) (Or.inl ⟨by rfl, ?_⟩) (by assumption) ?_
          rotate_left 1
          · (intro w hSw; (try dsimp only at hSw); go_simp; (try with_reducible rfl))
          try simp only [Act.put, List.setIfInBounds_toArray, List.set_cons_zero, List.set_cons_succ]
          refine wpAnyH_take (i := 12) (oi := Oper.mk (some 19) (Op.move (Operand.tmp 18)) 4 "law.go:47" #[Edge.mk 11 Ground.data, Edge.mk 9 Ground.chain] none) (v := ?_) rfl (by kernel_rfl) (by kernel_rfl) (by kernel_rfl) (fun _ _ _ h => h) (Or.inl ⟨by rfl, ?_⟩) (by assumption) ?_
          rotate_left 1
          · (intro w hSw; (try dsimp only at hSw); go_simp; (try with_reducible rfl))
          try simp only [Act.put, List.setIfInBounds_toArray, List.set_cons_zero, List.set_cons_succ]
          refine wpAnyH_take (i := 13) (oi := Oper.mk (some 20) (Op.load 25 (Operand.tmp 3)) 25 "law.go:47" #[Edge.mk 12 Ground.guard] (some (12, true))) (v := ?_) rfl (by kernel_rfl) (by kernel_rfl) (by kernel_rfl) (fun _ _ _ h => h) (Or.inl ⟨by rfl, ?_⟩) (by assumption) ?_
          rotate_left 1
          · (intro w hSw; (try dsimp only at hSw); go_simp; (try with_reducible rfl))
          try simp only [Act.put, List.setIfInBounds_toArray, List.set_cons_zero, List.set_cons_succ]
          refine wpAnyH_take (i := 15) (oi := Oper.mk (some 22) (Op.fieldAddr 23 (Operand.tmp 1) 0) 0 "law.go:47" #[Edge.mk 12 Ground.guard] (some (12, true))) (v := ?_) rfl (by kernel_rfl) (by kernel_rfl) (by kernel_rfl) (fun _ _ _ h => h) (Or.inl ⟨by rfl, ?_⟩) (by assumption) ?_
          rotate_left 1
          · (intro w hSw; (try dsimp only at hSw); go_simp; (try with_reducible rfl))
          try simp only [Act.put, List.setIfInBounds_toArray, List.set_cons_zero, List.set_cons_succ]
          refine wpAnyH_take (i := 16) (oi := Oper.mk (some 23) (Op.load 3 (Operand.tmp 22)) 3 "law.go:47" #[Edge.mk 15 Ground.data, Edge.mk 12 Ground.guard] (some (12, true))) (v := ?_) rfl (by kernel_rfl) (by kernel_rfl) (by kernel_rfl) (fun _ _ _ h => h) (Or.inl ⟨by rfl, ?_⟩) (by assumption) ?_
          rotate_left 1
          · (intro w hSw; (try dsimp only at hSw); go_simp; (try with_reducible rfl))
          try simp only [Act.put, List.setIfInBounds_toArray, List.set_cons_zero, List.set_cons_succ]
          refine wpAnyH_take (i := 17) (oi := Oper.mk (some 24) (Op.binOp BinOp.eql 3 (Operand.tmp 23) (Operand.const (Value.int IntKind.i64 2)) 3) 4 "law.go:47" #[Edge.mk 16 Ground.data, Edge.mk 12 Ground.guard] (some (12, true))) (v := ?_) rfl (by kernel_rfl) (by kernel_rfl) (by kernel_rfl) (fun _ _ _ h => h) (Or.inl ⟨by rfl, ?_⟩) (by assumption) ?_
          rotate_left 1
          · (intro w hSw; (try dsimp only at hSw); go_simp; (try with_reducible rfl))
          try simp only [Act.put, List.setIfInBounds_toArray, List.set_cons_zero, List.set_cons_succ]
          refine wpAnyH_ready (rs := [14]) (by kernel_rfl) (by simp) ?_
          refine AllReadyH.cons (o := Oper.mk (some 21) (Op.call (Call.mk (Callee.value (Operand.func 10)) #[Operand.tmp 20] #[25])) 4 "law.go:47" #[Edge.mk 13 Ground.data, Edge.mk 12 Ground.chain, Edge.mk 12 Ground.guard] (some (12, true))) rfl (fun K hK => ?_) AllReadyH.nil
          go_simp
          (go_at_call 10; go_split_ands; (with_reducible refine (CE.out _).mono ?_); rintro e9 v5w ⟨rfl, hb⟩; have B : Below U.heap.size U v5w := below_join (by assumption) hb; have r0 := (B.cell (p := ⟨zb, 0, none⟩) kb).trans f0; have r1 := (B.cell (p := ⟨zb, 1, none⟩) kb).trans f1; have r2 := (B.cell (p := ⟨zb, 2, none⟩) kb).trans f2; have r3 := (B.cell (p := ⟨zb, 3, none⟩) kb).trans f3; have r4 := (B.cell (p := ⟨za, 0, none⟩) ka).trans g0; have r5 := (B.cell (p := ⟨za, 1, none⟩) ka).trans g1; have r6 := (B.cell (p := ⟨za, 2, none⟩) ka).trans g2; have r7 := (B.cell (p := ⟨za, 3, none⟩) ka).trans g3; clear hb)
          go_wp2_with fail
          refine hK.out _ _ ?_ (fun hH5 => ?_)
          · ((try dsimp only); (first | (refine ⟨?_, ?_, ?_, ?_, ?_, ?_, ?_, ?_, ?_⟩ <;> first | with_reducible assumption | with_reducible exact Below_drew HBB | exact Below_drew HBB | exact below_heap HBB rfl rfl rfl rfl | assumption) | go_keep))
          clear hK K
          try clear hH4
          try simp only [Act.put, List.setIfInBounds_toArray, List.set_cons_zero, List.set_cons_succ]
          refine wpAnyH_take (i := 18) (oi := Oper.mk (some 25) (Op.move (Operand.tmp 24)) 4 "law.go:47" #[Edge.mk 17 Ground.data, Edge.mk 14 Ground.chain, Edge.mk 12 Ground.guard] (some (12, true))) (v := ?_) rfl (by kernel_rfl) (by kernel_rfl) (by kernel_rfl) (fun _ _ _ h => h) (Or.inl ⟨by rfl, ?_⟩) (by assumption) ?_
          rotate_left 1
          · (intro w hSw; (try dsimp only at hSw); go_simp; (try with_reducible rfl))
          try simp only [Act.put, List.setIfInBounds_toArray, List.set_cons_zero, List.set_cons_succ]
          refine wpAnyH_take (i := 19) (oi := Oper.mk (some 26) (Op.fieldAddr 23 (Operand.tmp 1) 0) 0 "law.go:47" #[Edge.mk 18 Ground.guard] (some (18, false))) (v := ?_) rfl (by kernel_rfl) (by kernel_rfl) (by kernel_rfl) (fun _ _ _ h => h) (Or.inl ⟨by rfl, ?_⟩) (by assumption) ?_
          rotate_left 1
          · (intro w hSw; (try dsimp only at hSw); go_simp; (try with_reducible rfl))
          try simp only [Act.put, List.setIfInBounds_toArray, List.set_cons_zero, List.set_cons_succ]
          refine wpAnyH_take (i := 20) (oi := Oper.mk (some 27) (Op.load 3 (Operand.tmp 26)) 3 "law.go:47" #[Edge.mk 19 Ground.data, Edge.mk 18 Ground.guard] (some (18, false))) (v := ?_) rfl (by kernel_rfl) (by kernel_rfl) (by kernel_rfl) (fun _ _ _ h => h) (Or.inl ⟨by rfl, ?_⟩) (by assumption) ?_
          rotate_left 1
          · (intro w hSw; (try dsimp only at hSw); go_simp; (try with_reducible rfl))
          try simp only [Act.put, List.setIfInBounds_toArray, List.set_cons_zero, List.set_cons_succ]
          refine wpAnyH_take (i := 21) (oi := Oper.mk (some 28) (Op.binOp BinOp.eql 3 (Operand.tmp 27) (Operand.const (Value.int IntKind.i64 3)) 3) 4 "law.go:47" #[Edge.mk 20 Ground.data, Edge.mk 18 Ground.guard] (some (18, false))) (v := ?_) rfl (by kernel_rfl) (by kernel_rfl) (by kernel_rfl) (fun _ _ _ h => h) (Or.inl ⟨by rfl, ?_⟩) (by assumption) ?_
          rotate_left 1
          · (intro w hSw; (try dsimp only at hSw); go_simp; (try with_reducible rfl))
          try simp only [Act.put, List.setIfInBounds_toArray, List.set_cons_zero, List.set_cons_succ]
          refine wpAnyH_take (i := 22) (oi := Oper.mk (some 29) (Op.pick (Operand.tmp 25) (Operand.const (Value.bool true)) (Operand.tmp 28)) 4 "law.go:47" #[Edge.mk 18 Ground.data, Edge.mk 21 Ground.data, Edge.mk 12 Ground.guard] (some (12, true))) (v := ?_) rfl (by kernel_rfl) (by kernel_rfl) (by kernel_rfl) (fun _ _ _ h => h) (Or.inl ⟨by rfl, ?_⟩) (by assumption) ?_
          rotate_left 1
          · (intro w hSw; (try dsimp only at hSw); go_simp; (try with_reducible rfl))
          try simp only [Act.put, List.setIfInBounds_toArray, List.set_cons_zero, List.set_cons_succ]
          refine wpAnyH_take (i := 23) (oi := Oper.mk (some 30) (Op.binOp BinOp.eql 4 (Operand.tmp 21) (Operand.tmp 29) 4) 4 "law.go:47" #[Edge.mk 14 Ground.data, Edge.mk 22 Ground.data, Edge.mk 12 Ground.guard] (some (12, true))) (v := ?_) rfl (by kernel_rfl) (by kernel_rfl) (by kernel_rfl) (fun _ _ _ h => h) (Or.inl ⟨by rfl, ?_⟩) (by assumption) ?_
          rotate_left 1
          · (intro w hSw; (try dsimp only at hSw); go_simp; (try with_reducible rfl))
          try simp only [Act.put, List.setIfInBounds_toArray, List.set_cons_zero, List.set_cons_succ]
          refine wpAnyH_take (i := 24) (oi := Oper.mk (some 31) (Op.pick (Operand.tmp 19) (Operand.tmp 30) (Operand.const (Value.bool false))) 4 "law.go:47" #[Edge.mk 12 Ground.data, Edge.mk 23 Ground.data] none) (v := ?_) rfl (by kernel_rfl) (by kernel_rfl) (by kernel_rfl) (fun _ _ _ h => h) (Or.inl ⟨by rfl, ?_⟩) (by assumption) ?_
          rotate_left 1
          · (intro w hSw; (try dsimp only at hSw); go_simp; (try with_reducible rfl))
          try simp only [Act.put, List.setIfInBounds_toArray, List.set_cons_zero, List.set_cons_succ]
          refine wpAnyH_take (i := 25) (oi := Oper.mk (some 32) (Op.move (Operand.tmp 31)) 4 "law.go:47" #[Edge.mk 24 Ground.data, Edge.mk 18 Ground.chain] none) (v := ?_) rfl (by kernel_rfl) (by kernel_rfl) (by kernel_rfl) (fun _ _ _ h => h) (Or.inl ⟨by rfl, ?_⟩) (by assumption) ?_
          rotate_left 1
          · (intro w hSw; (try dsimp only at hSw); go_simp; (try with_reducible rfl))
          try simp only [Act.put, List.setIfInBounds_toArray, List.set_cons_zero, List.set_cons_succ]
          refine wpAnyH_take (i := 26) (oi := Oper.mk (some 33) (Op.load 25 (Operand.tmp 3)) 25 "law.go:47" #[Edge.mk 25 Ground.guard] (some (25, true))) (v := ?_) rfl (by kernel_rfl) (by kernel_rfl) (by kernel_rfl) (fun _ _ _ h => h) (Or.inl ⟨by rfl, ?_⟩) (by assumption) ?_
          rotate_left 1
          · (intro w hSw; (try dsimp only at hSw); go_simp; (try with_reducible rfl))
          try simp only [Act.put, List.setIfInBounds_toArray, List.set_cons_zero, List.set_cons_succ]
          refine wpAnyH_take (i := 28) (oi := Oper.mk (some 35) (Op.fieldAddr 23 (Operand.tmp 1) 0) 0 "law.go:47" #[Edge.mk 25 Ground.guard] (some (25, true))) (v := ?_) rfl (by kernel_rfl) (by kernel_rfl) (by kernel_rfl) (fun _ _ _ h => h) (Or.inl ⟨by rfl, ?_⟩) (by assumption) ?_
          rotate_left 1
          · (intro w hSw; (try dsimp only at hSw); go_simp; (try with_reducible rfl))
          try simp only [Act.put, List.setIfInBounds_toArray, List.set_cons_zero, List.set_cons_succ]
          refine wpAnyH_take (i := 29) (oi := Oper.mk (some 36) (Op.load 3 (Operand.tmp 35)) 3 "law.go:47" #[Edge.mk 28 Ground.data, Edge.mk 25 Ground.guard] (some (25, true))) (v := ?_) rfl (by kernel_rfl) (by kernel_rfl) (by kernel_rfl) (fun _ _ _ h => h) (Or.inl ⟨by rfl, ?_⟩) (by assumption) ?_
          rotate_left 1
          · (intro w hSw; (try dsimp only at hSw); go_simp; (try with_reducible rfl))
          try simp only [Act.put, List.setIfInBounds_toArray, List.set_cons_zero, List.set_cons_succ]
          refine wpAnyH_take (i := 30) (oi := Oper.mk (some 37) (Op.binOp BinOp.eql 3 (Operand.tmp 36) (Operand.const (Value.int IntKind.i64 5)) 3) 4 "law.go:47" #[Edge.mk 29 Ground.data, Edge.mk 25 Ground.guard] (some (25, true))) (v := ?_) rfl (by kernel_rfl) (by kernel_rfl) (by kernel_rfl) (fun _ _ _ h => h) (Or.inl ⟨by rfl, ?_⟩) (by assumption) ?_
          rotate_left 1
          · (intro w hSw; (try dsimp only at hSw); go_simp; (try with_reducible rfl))
          try simp only [Act.put, List.setIfInBounds_toArray, List.set_cons_zero, List.set_cons_succ]
          refine wpAnyH_ready (rs := [27]) (by kernel_rfl) (by simp) ?_
          refine AllReadyH.cons (o := Oper.mk (some 34) (Op.call (Call.mk (Callee.value (Operand.func 11)) #[Operand.tmp 33] #[25])) 4 "law.go:47" #[Edge.mk 26 Ground.data, Edge.mk 25 Ground.chain, Edge.mk 25 Ground.guard] (some (25, true))) rfl (fun K hK => ?_) AllReadyH.nil
          go_simp
          (go_at_call 11; go_split_ands; (with_reducible refine (CL.out _).mono ?_); rintro e9 v6w ⟨rfl, hb⟩; have B : Below U.heap.size U v6w := below_join (by assumption) hb; have r0 := (B.cell (p := ⟨zb, 0, none⟩) kb).trans f0; have r1 := (B.cell (p := ⟨zb, 1, none⟩) kb).trans f1; have r2 := (B.cell (p := ⟨zb, 2, none⟩) kb).trans f2; have r3 := (B.cell (p := ⟨zb, 3, none⟩) kb).trans f3; have r4 := (B.cell (p := ⟨za, 0, none⟩) ka).trans g0; have r5 := (B.cell (p := ⟨za, 1, none⟩) ka).trans g1; have r6 := (B.cell (p := ⟨za, 2, none⟩) ka).trans g2; have r7 := (B.cell (p := ⟨za, 3, none⟩) ka).trans g3; clear hb)
          go_wp2_with fail
          refine hK.out _ _ ?_ (fun hH6 => ?_)
          · ((try dsimp only); (first | (refine ⟨?_, ?_, ?_, ?_, ?_, ?_, ?_, ?_, ?_⟩ <;> first | with_reducible assumption | with_reducible exact Below_drew HBB | exact Below_drew HBB | exact below_heap HBB rfl rfl rfl rfl | assumption) | go_keep))
          clear hK K
          try clear hH5
          try simp only [Act.put, List.setIfInBounds_toArray, List.set_cons_zero, List.set_cons_succ]
          refine wpAnyH_take (i := 31) (oi := Oper.mk (some 38) (Op.move (Operand.tmp 37)) 4 "law.go:47" #[Edge.mk 30 Ground.data, Edge.mk 27 Ground.chain, Edge.mk 25 Ground.guard] (some (25, true))) (v := ?_) rfl (by kernel_rfl) (by kernel_rfl) (by kernel_rfl) (fun _ _ _ h => h) (Or.inl ⟨by rfl, ?_⟩) (by assumption) ?_
          rotate_left 1
          · (intro w hSw; (try dsimp only at hSw); go_simp; (try with_reducible rfl))
          try simp only [Act.put, List.setIfInBounds_toArray, List.set_cons_zero, List.set_cons_succ]
          refine wpAnyH_take (i := 32) (oi := Oper.mk (some 39) (Op.fieldAddr 23 (Operand.tmp 1) 0) 0 "law.go:47" #[Edge.mk 31 Ground.guard] (some (31, false))) (v := ?_) rfl (by kernel_rfl) (by kernel_rfl) (by kernel_rfl) (fun _ _ _ h => h) (Or.inl ⟨by rfl, ?_⟩) (by assumption) ?_
          rotate_left 1
          · (intro w hSw; (try dsimp only at hSw); go_simp; (try with_reducible rfl))
          try simp only [Act.put, List.setIfInBounds_toArray, List.set_cons_zero, List.set_cons_succ]
          refine wpAnyH_take (i := 33) (oi := Oper.mk (some 40) (Op.load 3 (Operand.tmp 39)) 3 "law.go:47" #[Edge.mk 32 Ground.data, Edge.mk 31 Ground.guard] (some (31, false))) (v := ?_) rfl (by kernel_rfl) (by kernel_rfl) (by kernel_rfl) (fun _ _ _ h => h) (Or.inl ⟨by rfl, ?_⟩) (by assumption) ?_
          rotate_left 1
          · (intro w hSw; (try dsimp only at hSw); go_simp; (try with_reducible rfl))
          try simp only [Act.put, List.setIfInBounds_toArray, List.set_cons_zero, List.set_cons_succ]
          refine wpAnyH_take (i := 34) (oi := Oper.mk (some 41) (Op.binOp BinOp.eql 3 (Operand.tmp 40) (Operand.const (Value.int IntKind.i64 6)) 3) 4 "law.go:47" #[Edge.mk 33 Ground.data, Edge.mk 31 Ground.guard] (some (31, false))) (v := ?_) rfl (by kernel_rfl) (by kernel_rfl) (by kernel_rfl) (fun _ _ _ h => h) (Or.inl ⟨by rfl, ?_⟩) (by assumption) ?_
          rotate_left 1
          · (intro w hSw; (try dsimp only at hSw); go_simp; (try with_reducible rfl))
          try simp only [Act.put, List.setIfInBounds_toArray, List.set_cons_zero, List.set_cons_succ]
          refine wpAnyH_take (i := 35) (oi := Oper.mk (some 42) (Op.pick (Operand.tmp 38) (Operand.const (Value.bool true)) (Operand.tmp 41)) 4 "law.go:47" #[Edge.mk 31 Ground.data, Edge.mk 34 Ground.data, Edge.mk 25 Ground.guard] (some (25, true))) (v := ?_) rfl (by kernel_rfl) (by kernel_rfl) (by kernel_rfl) (fun _ _ _ h => h) (Or.inl ⟨by rfl, ?_⟩) (by assumption) ?_
          rotate_left 1
          · (intro w hSw; (try dsimp only at hSw); go_simp; (try with_reducible rfl))
          try simp only [Act.put, List.setIfInBounds_toArray, List.set_cons_zero, List.set_cons_succ]
          refine wpAnyH_take (i := 36) (oi := Oper.mk (some 43) (Op.binOp BinOp.eql 4 (Operand.tmp 34) (Operand.tmp 42) 4) 4 "law.go:47" #[Edge.mk 27 Ground.data, Edge.mk 35 Ground.data, Edge.mk 25 Ground.guard] (some (25, true))) (v := ?_) rfl (by kernel_rfl) (by kernel_rfl) (by kernel_rfl) (fun _ _ _ h => h) (Or.inl ⟨by rfl, ?_⟩) (by assumption) ?_
          rotate_left 1
          · (intro w hSw; (try dsimp only at hSw); go_simp; (try with_reducible rfl))
          try simp only [Act.put, List.setIfInBounds_toArray, List.set_cons_zero, List.set_cons_succ]
          refine wpAnyH_take (i := 37) (oi := Oper.mk (some 44) (Op.pick (Operand.tmp 32) (Operand.tmp 43) (Operand.const (Value.bool false))) 4 "law.go:47" #[Edge.mk 25 Ground.data, Edge.mk 36 Ground.data] none) (v := ?_) rfl (by kernel_rfl) (by kernel_rfl) (by kernel_rfl) (fun _ _ _ h => h) (Or.inl ⟨by rfl, ?_⟩) (by assumption) ?_
          rotate_left 1
          · (intro w hSw; (try dsimp only at hSw); go_simp; (try with_reducible rfl))
          try simp only [Act.put, List.setIfInBounds_toArray, List.set_cons_zero, List.set_cons_succ]
          refine wpAnyH_take (i := 38) (oi := Oper.mk (some 45) (Op.move (Operand.tmp 44)) 4 "law.go:47" #[Edge.mk 37 Ground.data, Edge.mk 31 Ground.chain] none) (v := ?_) rfl (by kernel_rfl) (by kernel_rfl) (by kernel_rfl) (fun _ _ _ h => h) (Or.inl ⟨by rfl, ?_⟩) (by assumption) ?_
          rotate_left 1
          · (intro w hSw; (try dsimp only at hSw); go_simp; (try with_reducible rfl))
          try simp only [Act.put, List.setIfInBounds_toArray, List.set_cons_zero, List.set_cons_succ]
          refine wpAnyH_take (i := 39) (oi := Oper.mk (some 46) (Op.load 25 (Operand.tmp 3)) 25 "law.go:47" #[Edge.mk 38 Ground.guard] (some (38, true))) (v := ?_) rfl (by kernel_rfl) (by kernel_rfl) (by kernel_rfl) (fun _ _ _ h => h) (Or.inl ⟨by rfl, ?_⟩) (by assumption) ?_
          rotate_left 1
          · (intro w hSw; (try dsimp only at hSw); go_simp; (try with_reducible rfl))
          try simp only [Act.put, List.setIfInBounds_toArray, List.set_cons_zero, List.set_cons_succ]
          refine wpAnyH_take (i := 41) (oi := Oper.mk (some 48) (Op.load 23 (Operand.tmp 1)) 23 "law.go:47" #[Edge.mk 38 Ground.guard] (some (38, true))) (v := ?_) rfl (by kernel_rfl) (by kernel_rfl) (by kernel_rfl) (fun _ _ _ h => h) (Or.inl ⟨by rfl, ?_⟩) (by assumption) ?_
          rotate_left 1
          · (intro w hSw; (try dsimp only at hSw); go_simp; (try with_reducible rfl))
          try simp only [Act.put, List.setIfInBounds_toArray, List.set_cons_zero, List.set_cons_succ]
          refine wpAnyH_ready (rs := [40]) (by kernel_rfl) (by simp) ?_
          refine AllReadyH.cons (o := Oper.mk (some 47) (Op.call (Call.mk (Callee.value (Operand.func 13)) #[Operand.tmp 46] #[25])) 28 "law.go:47" #[Edge.mk 39 Ground.data, Edge.mk 38 Ground.chain, Edge.mk 38 Ground.guard] (some (38, true))) rfl (fun K hK => ?_) AllReadyH.nil
          go_simp
          (go_at_call 13; go_split_ands; (with_reducible refine (CC.out _).mono ?_); rintro e9 v7w ⟨v7, rfl, ho, hb⟩; obtain ⟨A7, c7, rfl, hc7, hm7, hat⟩ := at_of_own' ho; have HAT7 := Lib.hid hat; have B : Below U.heap.size U v7w := below_join (by assumption) hb; have r0 := (B.cell (p := ⟨zb, 0, none⟩) kb).trans f0; have r1 := (B.cell (p := ⟨zb, 1, none⟩) kb).trans f1; have r2 := (B.cell (p := ⟨zb, 2, none⟩) kb).trans f2; have r3 := (B.cell (p := ⟨zb, 3, none⟩) kb).trans f3; have r4 := (B.cell (p := ⟨za, 0, none⟩) ka).trans g0; have r5 := (B.cell (p := ⟨za, 1, none⟩) ka).trans g1; have r6 := (B.cell (p := ⟨za, 2, none⟩) ka).trans g2; have r7 := (B.cell (p := ⟨za, 3, none⟩) ka).trans g3; have HBw := Lib.hid B; clear hb ho hat)
          go_wp2_with fail
          refine hK.out _ _ ?_ (fun hH7 => ?_)
          · ((try dsimp only); (first | (refine ⟨?_, ?_, ?_, ?_, ?_, ?_, ?_, ?_, ?_⟩ <;> first | with_reducible assumption | with_reducible exact Below_drew HBB | exact Below_drew HBB | exact below_heap HBB rfl rfl rfl rfl | assumption) | go_keep))
          clear hK K
          try clear hH6
          try simp only [Act.put, List.setIfInBounds_toArray, List.set_cons_zero, List.set_cons_succ]
          refine wpAnyH_ready (rs := [42]) (by kernel_rfl) (by simp) ?_
          refine AllReadyH.cons (o := Oper.mk (some 49) (Op.call (Call.mk (Callee.value (Operand.func 14)) #[Operand.tmp 48] #[23])) 28 "law.go:47" #[Edge.mk 41 Ground.data, Edge.mk 40 Ground.chain, Edge.mk 38 Ground.guard] (some (38, true))) rfl (fun K hK => ?_) AllReadyH.nil
          go_simp
          (go_at_call 14; go_split_ands; (with_reducible refine (CRC.out _).mono ?_); rintro e9 v8w ⟨v8, rfl, ho, hb⟩; obtain ⟨A8, c8, rfl, hc8, hm8, hat⟩ := at_of_own' ho; have HAT8 := Lib.hid hat; have B : Below U.heap.size U v8w := below_join (by assumption) hb; have r0 := (B.cell (p := ⟨zb, 0, none⟩) kb).trans f0; have r1 := (B.cell (p := ⟨zb, 1, none⟩) kb).trans f1; have r2 := (B.cell (p := ⟨zb, 2, none⟩) kb).trans f2; have r3 := (B.cell (p := ⟨zb, 3, none⟩) kb).trans f3; have r4 := (B.cell (p := ⟨za, 0, none⟩) ka).trans g0; have r5 := (B.cell (p := ⟨za, 1, none⟩) ka).trans g1; have r6 := (B.cell (p := ⟨za, 2, none⟩) ka).trans g2; have r7 := (B.cell (p := ⟨za, 3, none⟩) ka).trans g3; have HATM := Lib.hid (HAT7.out.below (show Below v7w.heap.size v7w v8w from below_join (by first | exact Below.refl _ _ | exact Below_drew (Below.refl _ _)) hb)); have HBw := Lib.hid B; clear hb ho hat)
          go_wp2_with fail
          refine hK.out _ _ ?_ (fun hH8 => ?_)
          · ((try dsimp only); (first | (refine ⟨?_, ?_, ?_, ?_, ?_, ?_, ?_, ?_, ?_⟩ <;> first | with_reducible assumption | with_reducible exact Below_drew HBB | exact Below_drew HBB | exact below_heap HBB rfl rfl rfl rfl | assumption) | go_keep))
          clear hK K
          try clear hH7
          try simp only [Act.put, List.setIfInBounds_toArray, List.set_cons_zero, List.set_cons_succ]
          refine wpAnyH_ready (rs := [43]) (by kernel_rfl) (by simp) ?_
          refine AllReadyH.cons (o := Oper.mk (some 50) (Op.call (Call.mk (Callee.value (Operand.func 12)) #[Operand.tmp 47, Operand.tmp 49] #[28, 28])) 4 "law.go:47" #[Edge.mk 40 Ground.data, Edge.mk 42 Ground.data, Edge.mk 42 Ground.chain, Edge.mk 38 Ground.guard] (some (38, true))) rfl (fun K hK => ?_) AllReadyH.nil
          go_simp
          (go_at_call 12; go_split_ands; (with_reducible refine (CS.out A7 c7 A8 c8 _ HATM.out HAT8.out).mono ?_); rintro e9 v9w ⟨rfl, q9, rfl⟩; have B : Below U.heap.size U (v8w.drewN q9) := below_heap HBw.out rfl rfl rfl rfl; have r0 : (v8w.drewN q9).cell? ⟨zb, 0, none⟩ = some (.int .i64 k) := (B.cell (p := ⟨zb, 0, none⟩) kb).trans f0; have r1 : (v8w.drewN q9).cell? ⟨zb, 1, none⟩ = some (.int .i64 m) := (B.cell (p := ⟨zb, 1, none⟩) kb).trans f1; have r2 : (v8w.drewN q9).cell? ⟨zb, 2, none⟩ = some (.int .i64 x) := (B.cell (p := ⟨zb, 2, none⟩) kb).trans f2; have r3 : (v8w.drewN q9).cell? ⟨zb, 3, none⟩ = some (.int .i64 y) := (B.cell (p := ⟨zb, 3, none⟩) kb).trans f3; have r4 : (v8w.drewN q9).cell? ⟨za, 0, none⟩ = some (.int .i64 k) := (B.cell (p := ⟨za, 0, none⟩) ka).trans g0; have r5 : (v8w.drewN q9).cell? ⟨za, 1, none⟩ = some (.int .i64 m) := (B.cell (p := ⟨za, 1, none⟩) ka).trans g1; have r6 : (v8w.drewN q9).cell? ⟨za, 2, none⟩ = some (.int .i64 x) := (B.cell (p := ⟨za, 2, none⟩) ka).trans g2; have r7 : (v8w.drewN q9).cell? ⟨za, 3, none⟩ = some (.int .i64 y) := (B.cell (p := ⟨za, 3, none⟩) ka).trans g3; have HBf := Lib.hid B)
          go_wp2_with fail
          refine hK.out _ _ ?_ (fun hH9 => ?_)
          · ((try dsimp only); (first | (refine ⟨?_, ?_, ?_, ?_, ?_, ?_, ?_, ?_, ?_⟩ <;> first | with_reducible assumption | with_reducible exact Below_drew HBB | exact Below_drew HBB | exact below_heap HBB rfl rfl rfl rfl | assumption) | go_keep))
          clear hK K
          try clear hH8
          try simp only [Act.put, List.setIfInBounds_toArray, List.set_cons_zero, List.set_cons_succ]
          refine wpAnyH_take (i := 44) (oi := Oper.mk (some 51) (Op.pick (Operand.tmp 45) (Operand.tmp 50) (Operand.const (Value.bool false))) 4 "law.go:47" #[Edge.mk 38 Ground.data, Edge.mk 43 Ground.data] none) (v := ?_) rfl (by kernel_rfl) (by kernel_rfl) (by kernel_rfl) (fun _ _ _ h => h) (Or.inl ⟨by rfl, ?_⟩) (by assumption) ?_
          rotate_left 1
          · (intro w hSw; (try dsimp only at hSw); go_simp; (try with_reducible rfl))
          try simp only [Act.put, List.setIfInBounds_toArray, List.set_cons_zero, List.set_cons_succ]
          refine wpAnyH_take (i := 45) (oi := Oper.mk (some 2) (Op.assign (Operand.tmp 51)) 4 "law.go:47" #[Edge.mk 44 Ground.data, Edge.mk 43 Ground.chain, Edge.mk 0 Ground.phase, Edge.mk 1 Ground.phase, Edge.mk 2 Ground.phase, Edge.mk 3 Ground.phase, Edge.mk 4 Ground.phase, Edge.mk 5 Ground.phase, Edge.mk 6 Ground.phase, Edge.mk 7 Ground.phase, Edge.mk 8 Ground.phase, Edge.mk 9 Ground.phase, Edge.mk 10 Ground.phase, Edge.mk 11 Ground.phase, Edge.mk 12 Ground.phase, Edge.mk 13 Ground.phase, Edge.mk 14 Ground.phase, Edge.mk 15 Ground.phase, Edge.mk 16 Ground.phase, Edge.mk 17 Ground.phase, Edge.mk 18 Ground.phase, Edge.mk 19 Ground.phase, Edge.mk 20 Ground.phase, Edge.mk 21 Ground.phase, Edge.mk 22 Ground.phase, Edge.mk 23 Ground.phase, Edge.mk 24 Ground.phase, Edge.mk 25 Ground.phase, Edge.mk 26 Ground.phase, Edge.mk 27 Ground.phase, Edge.mk 28 Ground.phase, Edge.mk 29 Ground.phase, Edge.mk 30 Ground.phase, Edge.mk 31 Ground.phase, Edge.mk 32 Ground.phase, Edge.mk 33 Ground.phase, Edge.mk 34 Ground.phase, Edge.mk 35 Ground.phase, Edge.mk 36 Ground.phase, Edge.mk 37 Ground.phase, Edge.mk 38 Ground.phase, Edge.mk 39 Ground.phase, Edge.mk 40 Ground.phase, Edge.mk 41 Ground.phase, Edge.mk 42 Ground.phase, Edge.mk 43 Ground.phase, Edge.mk 44 Ground.phase] none) (v := ?_) rfl (by kernel_rfl) (by kernel_rfl) (by kernel_rfl) (fun _ _ _ h => h) (Or.inl ⟨by rfl, ?_⟩) (by assumption) ?_
          rotate_left 1
          · (intro w hSw; (try dsimp only at hSw); go_simp; (try with_reducible rfl))
          try simp only [Act.put, List.setIfInBounds_toArray, List.set_cons_zero, List.set_cons_succ]
          refine wpAnyH_done (by kernel_rfl) ?_ _
          all_goals (go_split_ands; go_wp2_with fail; (try go_wp2); go_ret; exact ⟨rfl, HBU.out.trans (HBf.out.mono HBU.out.size)⟩)
        · skip
          have hE : decide (k = 2 ∨ k = 3) = false := by simp; omega
          have hL : decide (k = 5 ∨ k = 6) = false := by simp; omega
          rw [hE] at CE0
          rw [hL] at CL0
          have CE := Lib.hid CE0
          have CL := Lib.hid CL0
          have b2 : (k == 2) = false := by simp; omega
          have b3 : (k == 3) = false := by simp; omega
          have b5 : (k == 5) = false := by simp; omega
          have b6 : (k == 6) = false := by simp; omega
          clear hE hL CE0 CL0 h2 h3 h5 h6
          go_enter Try.func3, Try.ntmps3
          go_wp2_with fail
          rw [← HW0.out]
          (with_reducible refine (awake_any _).mono ?_)
          rintro e w1 ⟨rfl, hb1⟩
          have hl1 := HL0.out.below hb1
          obtain ⟨U, hU⟩ : ∃ U, U = w1.alloc (.cells #[.int .i64 k, .int .i64 m, .int .i64 x, .int .i64 y] 25) := ⟨_, rfl⟩
          have hlu : Blk U za 23 #[.int .i64 k, .int .i64 m, .int .i64 x, .int .i64 y] := by rw [hU, HZA.out]; exact hl1.alloc _
          obtain ⟨zb, hzb⟩ : ∃ z, z = w1.heap.size := ⟨_, rfl⟩
          have hlb : Blk U zb 25 #[.int .i64 k, .int .i64 m, .int .i64 x, .int .i64 y] := by rw [hU, hzb]; exact Blk.new w1 _ _
          have HBU : Hid (Below w.heap.size w U) := by show Below _ _ _; rw [hU]; exact below_more (HB0.out.trans (hb1.mono HB0.out.size)) _
          have e0 := hl1.cell 0 (v := .int .i64 k) rfl
          have e1 := hl1.cell 1 (v := .int .i64 m) rfl
          have e2 := hl1.cell 2 (v := .int .i64 x) rfl
          have e3 := hl1.cell 3 (v := .int .i64 y) rfl
          have HU := Lib.hid hU
          have HZB := Lib.hid hzb
          have f0 := hlb.cell 0 (v := .int .i64 k) rfl
          have f1 := hlb.cell 1 (v := .int .i64 m) rfl
          have f2 := hlb.cell 2 (v := .int .i64 x) rfl
          have f3 := hlb.cell 3 (v := .int .i64 y) rfl
          have g0 := hlu.cell 0 (v := .int .i64 k) rfl
          have g1 := hlu.cell 1 (v := .int .i64 m) rfl
          have g2 := hlu.cell 2 (v := .int .i64 x) rfl
          have g3 := hlu.cell 3 (v := .int .i64 y) rfl
          have kb : zb < U.heap.size := hlb.lt
          have ka : za < U.heap.size := hlu.lt
          clear hU hzb hlu hlb hl1 hb1
          go_upto_region 4 with fail
          rw [← HU.out, ← HZB.out, ← HZA.out]
          clear e0 e1 e2 e3
          have HBB := Below.refl U.heap.size U
          refine wp_region_held_drew (S := (fun w' => w'.cell? ⟨zb, 0, none⟩ = some (.int .i64 k) ∧ w'.cell? ⟨zb, 1, none⟩ = some (.int .i64 m) ∧ w'.cell? ⟨zb, 2, none⟩ = some (.int .i64 x) ∧ w'.cell? ⟨zb, 3, none⟩ = some (.int .i64 y) ∧ w'.cell? ⟨za, 0, none⟩ = some (.int .i64 k) ∧ w'.cell? ⟨za, 1, none⟩ = some (.int .i64 m) ∧ w'.cell? ⟨za, 2, none⟩ = some (.int .i64 x) ∧ w'.cell? ⟨za, 3, none⟩ = some (.int .i64 y) ∧ Below U.heap.size U w')) (by kernel_rfl) ?_ (fun hH0 => ?_)
          · ((try dsimp only); (first | (refine ⟨?_, ?_, ?_, ?_, ?_, ?_, ?_, ?_, ?_⟩ <;> first | with_reducible assumption | with_reducible exact Below_drew HBB | exact Below_drew HBB | exact below_heap HBB rfl rfl rfl rfl | assumption) | go_keep))
          refine wpAnyH_take (i := 0) (oi := Oper.mk (some 7) (Op.load 25 (Operand.tmp 3)) 25 "law.go:47" #[] none) (v := ?_) rfl (by kernel_rfl) (by kernel_rfl) (by kernel_rfl) (fun _ _ _ h => h) (Or.inl ⟨by rfl, ?_⟩) (by assumption) ?_
          rotate_left 1
          · (intro w hSw; (try dsimp only at hSw); go_simp; (try with_reducible rfl))
          try simp only [Act.put, List.setIfInBounds_toArray, List.set_cons_zero, List.set_cons_succ]
          refine wpAnyH_take (i := 2) (oi := Oper.mk (some 9) (Op.load 23 (Operand.tmp 1)) 23 "law.go:47" #[] none) (v := ?_) rfl (by kernel_rfl) (by kernel_rfl) (by kernel_rfl) (fun _ _ _ h => h) (Or.inl ⟨by rfl, ?_⟩) (by assumption) ?_
          rotate_left 1
          · (intro w hSw; (try dsimp only at hSw); go_simp; (try with_reducible rfl))
          try simp only [Act.put, List.setIfInBounds_toArray, List.set_cons_zero, List.set_cons_succ]
          refine wpAnyH_ready (rs := [1]) (by kernel_rfl) (by simp) ?_
          refine AllReadyH.cons (o := Oper.mk (some 8) (Op.call (Call.mk (Callee.value (Operand.func 6)) #[Operand.tmp 7] #[25])) 4 "law.go:47" #[Edge.mk 0 Ground.data] none) rfl (fun K hK => ?_) AllReadyH.nil
          go_simp
          (go_at_call 6; go_split_ands; (with_reducible refine (CM.out _).mono ?_); rintro e9 v1w ⟨rfl, hb⟩; have B : Below U.heap.size U v1w := below_join (by assumption) hb; have r0 := (B.cell (p := ⟨zb, 0, none⟩) kb).trans f0; have r1 := (B.cell (p := ⟨zb, 1, none⟩) kb).trans f1; have r2 := (B.cell (p := ⟨zb, 2, none⟩) kb).trans f2; have r3 := (B.cell (p := ⟨zb, 3, none⟩) kb).trans f3; have r4 := (B.cell (p := ⟨za, 0, none⟩) ka).trans g0; have r5 := (B.cell (p := ⟨za, 1, none⟩) ka).trans g1; have r6 := (B.cell (p := ⟨za, 2, none⟩) ka).trans g2; have r7 := (B.cell (p := ⟨za, 3, none⟩) ka).trans g3; clear hb)
          go_wp2_with fail
          refine hK.out _ _ ?_ (fun hH1 => ?_)
          · ((try dsimp only); (first | (refine ⟨?_, ?_, ?_, ?_, ?_, ?_, ?_, ?_, ?_⟩ <;> first | with_reducible assumption | with_reducible exact Below_drew HBB | exact Below_drew HBB | exact below_heap HBB rfl rfl rfl rfl | assumption) | go_keep))
          clear hK K
          try clear hH0
          try simp only [Act.put, List.setIfInBounds_toArray, List.set_cons_zero, List.set_cons_succ]
          refine wpAnyH_ready (rs := [3]) (by kernel_rfl) (by simp) ?_
          refine AllReadyH.cons (o := Oper.mk (some 10) (Op.call (Call.mk (Callee.value (Operand.func 7)) #[Operand.tmp 9] #[23])) 4 "law.go:47" #[Edge.mk 2 Ground.data, Edge.mk 1 Ground.chain] none) rfl (fun K hK => ?_) AllReadyH.nil
          go_simp
          (go_at_call 7; go_split_ands; (with_reducible refine (CRM.out _).mono ?_); rintro e9 v2w ⟨rfl, hb⟩; have B : Below U.heap.size U v2w := below_join (by assumption) hb; have r0 := (B.cell (p := ⟨zb, 0, none⟩) kb).trans f0; have r1 := (B.cell (p := ⟨zb, 1, none⟩) kb).trans f1; have r2 := (B.cell (p := ⟨zb, 2, none⟩) kb).trans f2; have r3 := (B.cell (p := ⟨zb, 3, none⟩) kb).trans f3; have r4 := (B.cell (p := ⟨za, 0, none⟩) ka).trans g0; have r5 := (B.cell (p := ⟨za, 1, none⟩) ka).trans g1; have r6 := (B.cell (p := ⟨za, 2, none⟩) ka).trans g2; have r7 := (B.cell (p := ⟨za, 3, none⟩) ka).trans g3; clear hb)
          go_wp2_with fail
          refine hK.out _ _ ?_ (fun hH2 => ?_)
          · ((try dsimp only); (first | (refine ⟨?_, ?_, ?_, ?_, ?_, ?_, ?_, ?_, ?_⟩ <;> first | with_reducible assumption | with_reducible exact Below_drew HBB | exact Below_drew HBB | exact below_heap HBB rfl rfl rfl rfl | assumption) | go_keep))
          clear hK K
          try clear hH1
          try simp only [Act.put, List.setIfInBounds_toArray, List.set_cons_zero, List.set_cons_succ]
          refine wpAnyH_take (i := 4) (oi := Oper.mk (some 11) (Op.binOp BinOp.eql 4 (Operand.tmp 8) (Operand.tmp 10) 4) 4 "law.go:47" #[Edge.mk 1 Ground.data, Edge.mk 3 Ground.data] none) (v := ?_) rfl (by kernel_rfl) (by kernel_rfl) (by kernel_rfl) (fun _ _ _ h => h) (Or.inl ⟨by rfl, ?_⟩) (by assumption) ?_
          rotate_left 1
          · (intro w hSw; (try dsimp only at hSw); go_simp; (try with_reducible rfl))
          try simp only [Act.put, List.setIfInBounds_toArray, List.set_cons_zero, List.set_cons_succ]
          refine wpAnyH_take (i := 5) (oi := Oper.mk (some 12) (Op.move (Operand.tmp 11)) 4 "law.go:47" #[Edge.mk 4 Ground.data, Edge.mk 3 Ground.chain] none) (v := ?_) rfl (by kernel_rfl) (by kernel_rfl) (by kernel_rfl) (fun _ _ _ h => h) (Or.inl ⟨by rfl, ?_⟩) (by assumption) ?_
          rotate_left 1
          · (intro w hSw; (try dsimp only at hSw); go_simp; (try with_reducible rfl))
          try simp only [Act.put, List.setIfInBounds_toArray, List.set_cons_zero, List.set_cons_succ]
          refine wpAnyH_take (i := 6) (oi := Oper.mk (some 13) (Op.load 25 (Operand.tmp 3)) 25 "law.go:47" #[Edge.mk 5 Ground.guard] (some (5, true))) (v := ?_) rfl (by kernel_rfl) (by kernel_rfl) (by kernel_rfl) (fun _ _ _ h => h) (Or.inl ⟨by rfl, ?_⟩) (by assumption) ?_
          rotate_left 1
          · (intro w hSw; (try dsimp only at hSw); go_simp; (try with_reducible rfl))
          try simp only [Act.put, List.setIfInBounds_toArray, List.set_cons_zero, List.set_cons_succ]
          refine wpAnyH_take (i := 8) (oi := Oper.mk (some 15) (Op.load 23 (Operand.tmp 1)) 23 "law.go:47" #[Edge.mk 5 Ground.guard] (some (5, true))) (v := ?_) rfl (by kernel_rfl) (by kernel_rfl) (by kernel_rfl) (fun _ _ _ h => h) (Or.inl ⟨by rfl, ?_⟩) (by assumption) ?_
          rotate_left 1
          · (intro w hSw; (try dsimp only at hSw); go_simp; (try with_reducible rfl))
          try simp only [Act.put, List.setIfInBounds_toArray, List.set_cons_zero, List.set_cons_succ]
          refine wpAnyH_ready (rs := [7]) (by kernel_rfl) (by simp) ?_
          refine AllReadyH.cons (o := Oper.mk (some 14) (Op.call (Call.mk (Callee.value (Operand.func 8)) #[Operand.tmp 13] #[25])) 4 "law.go:47" #[Edge.mk 6 Ground.data, Edge.mk 5 Ground.chain, Edge.mk 5 Ground.guard] (some (5, true))) rfl (fun K hK => ?_) AllReadyH.nil
          go_simp
          (go_at_call 8; go_split_ands; (with_reducible refine (CG.out _).mono ?_); rintro e9 v3w ⟨rfl, hb⟩; have B : Below U.heap.size U v3w := below_join (by assumption) hb; have r0 := (B.cell (p := ⟨zb, 0, none⟩) kb).trans f0; have r1 := (B.cell (p := ⟨zb, 1, none⟩) kb).trans f1; have r2 := (B.cell (p := ⟨zb, 2, none⟩) kb).trans f2; have r3 := (B.cell (p := ⟨zb, 3, none⟩) kb).trans f3; have r4 := (B.cell (p := ⟨za, 0, none⟩) ka).trans g0; have r5 := (B.cell (p := ⟨za, 1, none⟩) ka).trans g1; have r6 := (B.cell (p := ⟨za, 2, none⟩) ka).trans g2; have r7 := (B.cell (p := ⟨za, 3, none⟩) ka).trans g3; clear hb)
          go_wp2_with fail
          refine hK.out _ _ ?_ (fun hH3 => ?_)
          · ((try dsimp only); (first | (refine ⟨?_, ?_, ?_, ?_, ?_, ?_, ?_, ?_, ?_⟩ <;> first | with_reducible assumption | with_reducible exact Below_drew HBB | exact Below_drew HBB | exact below_heap HBB rfl rfl rfl rfl | assumption) | go_keep))
          clear hK K
          try clear hH2
          try simp only [Act.put, List.setIfInBounds_toArray, List.set_cons_zero, List.set_cons_succ]
          refine wpAnyH_ready (rs := [9]) (by kernel_rfl) (by simp) ?_
          refine AllReadyH.cons (o := Oper.mk (some 16) (Op.call (Call.mk (Callee.value (Operand.func 9)) #[Operand.tmp 15] #[23])) 4 "law.go:47" #[Edge.mk 8 Ground.data, Edge.mk 7 Ground.chain, Edge.mk 5 Ground.guard] (some (5, true))) rfl (fun K hK => ?_) AllReadyH.nil
          go_simp
          (go_at_call 9; go_split_ands; (with_reducible refine (CRG.out _).mono ?_); rintro e9 v4w ⟨rfl, hb⟩; have B : Below U.heap.size U v4w := below_join (by assumption) hb; have r0 := (B.cell (p := ⟨zb, 0, none⟩) kb).trans f0; have r1 := (B.cell (p := ⟨zb, 1, none⟩) kb).trans f1; have r2 := (B.cell (p := ⟨zb, 2, none⟩) kb).trans f2; have r3 := (B.cell (p := ⟨zb, 3, none⟩) kb).trans f3; have r4 := (B.cell (p := ⟨za, 0, none⟩) ka).trans g0; have r5 := (B.cell (p := ⟨za, 1, none⟩) ka).trans g1; have r6 := (B.cell (p := ⟨za, 2, none⟩) ka).trans g2; have r7 := (B.cell (p := ⟨za, 3, none⟩) ka).trans g3; clear hb)
          go_wp2_with fail
          refine hK.out _ _ ?_ (fun hH4 => ?_)
          · ((try dsimp only); (first | (refine ⟨?_, ?_, ?_, ?_, ?_, ?_, ?_, ?_, ?_⟩ <;> first | with_reducible assumption | with_reducible exact Below_drew HBB | exact Below_drew HBB | exact below_heap HBB rfl rfl rfl rfl | assumption) | go_keep))
          clear hK K
          try clear hH3
          try simp only [Act.put, List.setIfInBounds_toArray, List.set_cons_zero, List.set_cons_succ]
          refine wpAnyH_take (i := 10) (oi := Oper.mk (some 17) (Op.binOp BinOp.eql 4 (Operand.tmp 14) (Operand.tmp 16) 4) 4 "law.go:47" #[Edge.mk 7 Ground.data, Edge.mk 9 Ground.data, Edge.mk 5 Ground.guard] (some (5, true))) (v := ?_) rfl (by kernel_rfl) (by kernel_rfl) (by kernel_rfl) (fun _ _ _ h => h) (Or.inl ⟨by rfl, ?_⟩) (by assumption) ?_
          rotate_left 1
          · (intro w hSw; (try dsimp only at hSw); go_simp; (try with_reducible rfl))
          try simp only [Act.put, List.setIfInBounds_toArray, List.set_cons_zero, List.set_cons_succ]
          refine wpAnyH_take (i := 11) (oi := Oper.mk (some 18) (Op.pick (Operand.tmp 12) (Operand.tmp 17) (Operand.const (Value.bool false))) 4 "law.go:47" #[Edge.mk 5 Ground.data, Edge.mk 10 Ground.data] none) (v := ?_) rfl (by kernel_rfl) (by kernel_rfl) (by kernel_rfl) (fun _ _ _ h => h) (Or.inl ⟨by rfl, ?_⟩) (by assumption) ?_
          rotate_left 1
          · (intro w hSw; (try dsimp only at hSw); go_simp; (try with_reducible rfl))
          try simp only [Act.put, List.setIfInBounds_toArray, List.set_cons_zero, List.set_cons_succ]
          refine wpAnyH_take (i := 12) (oi := Oper.mk (some 19) (Op.move (Operand.tmp 18)) 4 "law.go:47" #[Edge.mk 11 Ground.data, Edge.mk 9 Ground.chain] none) (v := ?_) rfl (by kernel_rfl) (by kernel_rfl) (by kernel_rfl) (fun _ _ _ h => h) (Or.inl ⟨by rfl, ?_⟩) (by assumption) ?_
          rotate_left 1
          · (intro w hSw; (try dsimp only at hSw); go_simp; (try with_reducible rfl))
          try simp only [Act.put, List.setIfInBounds_toArray, List.set_cons_zero, List.set_cons_succ]
          refine wpAnyH_take (i := 13) (oi := Oper.mk (some 20) (Op.load 25 (Operand.tmp 3)) 25 "law.go:47" #[Edge.mk 12 Ground.guard] (some (12, true))) (v := ?_) rfl (by kernel_rfl) (by kernel_rfl) (by kernel_rfl) (fun _ _ _ h => h) (Or.inl ⟨by rfl, ?_⟩) (by assumption) ?_
          rotate_left 1
          · (intro w hSw; (try dsimp only at hSw); go_simp; (try with_reducible rfl))
          try simp only [Act.put, List.setIfInBounds_toArray, List.set_cons_zero, List.set_cons_succ]
          refine wpAnyH_take (i := 15) (oi := Oper.mk (some 22) (Op.fieldAddr 23 (Operand.tmp 1) 0) 0 "law.go:47" #[Edge.mk 12 Ground.guard] (some (12, true))) (v := ?_) rfl (by kernel_rfl) (by kernel_rfl) (by kernel_rfl) (fun _ _ _ h => h) (Or.inl ⟨by rfl, ?_⟩) (by assumption) ?_
          rotate_left 1
          · (intro w hSw; (try dsimp only at hSw); go_simp; (try with_reducible rfl))
          try simp only [Act.put, List.setIfInBounds_toArray, List.set_cons_zero, List.set_cons_succ]
          refine wpAnyH_take (i := 16) (oi := Oper.mk (some 23) (Op.load 3 (Operand.tmp 22)) 3 "law.go:47" #[Edge.mk 15 Ground.data, Edge.mk 12 Ground.guard] (some (12, true))) (v := ?_) rfl (by kernel_rfl) (by kernel_rfl) (by kernel_rfl) (fun _ _ _ h => h) (Or.inl ⟨by rfl, ?_⟩) (by assumption) ?_
          rotate_left 1
          · (intro w hSw; (try dsimp only at hSw); go_simp; (try with_reducible rfl))
          try simp only [Act.put, List.setIfInBounds_toArray, List.set_cons_zero, List.set_cons_succ]
          refine wpAnyH_take (i := 17) (oi := Oper.mk (some 24) (Op.binOp BinOp.eql 3 (Operand.tmp 23) (Operand.const (Value.int IntKind.i64 2)) 3) 4 "law.go:47" #[Edge.mk 16 Ground.data, Edge.mk 12 Ground.guard] (some (12, true))) (v := ?_) rfl (by kernel_rfl) (by kernel_rfl) (by kernel_rfl) (fun _ _ _ h => h) (Or.inl ⟨by rfl, ?_⟩) (by assumption) ?_
          rotate_left 1
          · (intro w hSw; (try dsimp only at hSw); go_simp; (try with_reducible rfl))
          try simp only [Act.put, List.setIfInBounds_toArray, List.set_cons_zero, List.set_cons_succ]
          refine wpAnyH_ready (rs := [14]) (by kernel_rfl) (by simp) ?_
          refine AllReadyH.cons (o := Oper.mk (some 21) (Op.call (Call.mk (Callee.value (Operand.func 10)) #[Operand.tmp 20] #[25])) 4 "law.go:47" #[Edge.mk 13 Ground.data, Edge.mk 12 Ground.chain, Edge.mk 12 Ground.guard] (some (12, true))) rfl (fun K hK => ?_) AllReadyH.nil
          go_simp
          (go_at_call 10; go_split_ands; (with_reducible refine (CE.out _).mono ?_); rintro e9 v5w ⟨rfl, hb⟩; have B : Below U.heap.size U v5w := below_join (by assumption) hb; have r0 := (B.cell (p := ⟨zb, 0, none⟩) kb).trans f0; have r1 := (B.cell (p := ⟨zb, 1, none⟩) kb).trans f1; have r2 := (B.cell (p := ⟨zb, 2, none⟩) kb).trans f2; have r3 := (B.cell (p := ⟨zb, 3, none⟩) kb).trans f3; have r4 := (B.cell (p := ⟨za, 0, none⟩) ka).trans g0; have r5 := (B.cell (p := ⟨za, 1, none⟩) ka).trans g1; have r6 := (B.cell (p := ⟨za, 2, none⟩) ka).trans g2; have r7 := (B.cell (p := ⟨za, 3, none⟩) ka).trans g3; clear hb)
          go_wp2_with fail
          refine hK.out _ _ ?_ (fun hH5 => ?_)
          · ((try dsimp only); (first | (refine ⟨?_, ?_, ?_, ?_, ?_, ?_, ?_, ?_, ?_⟩ <;> first | with_reducible assumption | with_reducible exact Below_drew HBB | exact Below_drew HBB | exact below_heap HBB rfl rfl rfl rfl | assumption) | go_keep))
          clear hK K
          try clear hH4
          try simp only [Act.put, List.setIfInBounds_toArray, List.set_cons_zero, List.set_cons_succ]
          refine wpAnyH_take (i := 18) (oi := Oper.mk (some 25) (Op.move (Operand.tmp 24)) 4 "law.go:47" #[Edge.mk 17 Ground.data, Edge.mk 14 Ground.chain, Edge.mk 12 Ground.guard] (some (12, true))) (v := ?_) rfl (by kernel_rfl) (by kernel_rfl) (by kernel_rfl) (fun _ _ _ h => h) (Or.inl ⟨by rfl, ?_⟩) (by assumption) ?_
          rotate_left 1
          · (intro w hSw; (try dsimp only at hSw); go_simp; (try with_reducible rfl))
          try simp only [Act.put, List.setIfInBounds_toArray, List.set_cons_zero, List.set_cons_succ]
          refine wpAnyH_take (i := 19) (oi := Oper.mk (some 26) (Op.fieldAddr 23 (Operand.tmp 1) 0) 0 "law.go:47" #[Edge.mk 18 Ground.guard] (some (18, false))) (v := ?_) rfl (by kernel_rfl) (by kernel_rfl) (by kernel_rfl) (fun _ _ _ h => h) (Or.inl ⟨by rfl, ?_⟩) (by assumption) ?_
          rotate_left 1
          · (intro w hSw; (try dsimp only at hSw); go_simp; (try with_reducible rfl))
          try simp only [Act.put, List.setIfInBounds_toArray, List.set_cons_zero, List.set_cons_succ]
          refine wpAnyH_take (i := 20) (oi := Oper.mk (some 27) (Op.load 3 (Operand.tmp 26)) 3 "law.go:47" #[Edge.mk 19 Ground.data, Edge.mk 18 Ground.guard] (some (18, false))) (v := ?_) rfl (by kernel_rfl) (by kernel_rfl) (by kernel_rfl) (fun _ _ _ h => h) (Or.inl ⟨by rfl, ?_⟩) (by assumption) ?_
          rotate_left 1
          · (intro w hSw; (try dsimp only at hSw); go_simp; (try with_reducible rfl))
          try simp only [Act.put, List.setIfInBounds_toArray, List.set_cons_zero, List.set_cons_succ]
          refine wpAnyH_take (i := 21) (oi := Oper.mk (some 28) (Op.binOp BinOp.eql 3 (Operand.tmp 27) (Operand.const (Value.int IntKind.i64 3)) 3) 4 "law.go:47" #[Edge.mk 20 Ground.data, Edge.mk 18 Ground.guard] (some (18, false))) (v := ?_) rfl (by kernel_rfl) (by kernel_rfl) (by kernel_rfl) (fun _ _ _ h => h) (Or.inl ⟨by rfl, ?_⟩) (by assumption) ?_
          rotate_left 1
          · (intro w hSw; (try dsimp only at hSw); go_simp; (try with_reducible rfl))
          try simp only [Act.put, List.setIfInBounds_toArray, List.set_cons_zero, List.set_cons_succ]
          refine wpAnyH_take (i := 22) (oi := Oper.mk (some 29) (Op.pick (Operand.tmp 25) (Operand.const (Value.bool true)) (Operand.tmp 28)) 4 "law.go:47" #[Edge.mk 18 Ground.data, Edge.mk 21 Ground.data, Edge.mk 12 Ground.guard] (some (12, true))) (v := ?_) rfl (by kernel_rfl) (by kernel_rfl) (by kernel_rfl) (fun _ _ _ h => h) (Or.inl ⟨by rfl, ?_⟩) (by assumption) ?_
          rotate_left 1
          · (intro w hSw; (try dsimp only at hSw); go_simp; (try with_reducible rfl))
          try simp only [Act.put, List.setIfInBounds_toArray, List.set_cons_zero, List.set_cons_succ]
          refine wpAnyH_take (i := 23) (oi := Oper.mk (some 30) (Op.binOp BinOp.eql 4 (Operand.tmp 21) (Operand.tmp 29) 4) 4 "law.go:47" #[Edge.mk 14 Ground.data, Edge.mk 22 Ground.data, Edge.mk 12 Ground.guard] (some (12, true))) (v := ?_) rfl (by kernel_rfl) (by kernel_rfl) (by kernel_rfl) (fun _ _ _ h => h) (Or.inl ⟨by rfl, ?_⟩) (by assumption) ?_
          rotate_left 1
          · (intro w hSw; (try dsimp only at hSw); go_simp; (try with_reducible rfl))
          try simp only [Act.put, List.setIfInBounds_toArray, List.set_cons_zero, List.set_cons_succ]
          refine wpAnyH_take (i := 24) (oi := Oper.mk (some 31) (Op.pick (Operand.tmp 19) (Operand.tmp 30) (Operand.const (Value.bool false))) 4 "law.go:47" #[Edge.mk 12 Ground.data, Edge.mk 23 Ground.data] none) (v := ?_) rfl (by kernel_rfl) (by kernel_rfl) (by kernel_rfl) (fun _ _ _ h => h) (Or.inl ⟨by rfl, ?_⟩) (by assumption) ?_
          rotate_left 1
          · (intro w hSw; (try dsimp only at hSw); go_simp; (try with_reducible rfl))
          try simp only [Act.put, List.setIfInBounds_toArray, List.set_cons_zero, List.set_cons_succ]
          refine wpAnyH_take (i := 25) (oi := Oper.mk (some 32) (Op.move (Operand.tmp 31)) 4 "law.go:47" #[Edge.mk 24 Ground.data, Edge.mk 18 Ground.chain] none) (v := ?_) rfl (by kernel_rfl) (by kernel_rfl) (by kernel_rfl) (fun _ _ _ h => h) (Or.inl ⟨by rfl, ?_⟩) (by assumption) ?_
          rotate_left 1
          · (intro w hSw; (try dsimp only at hSw); go_simp; (try with_reducible rfl))
          try simp only [Act.put, List.setIfInBounds_toArray, List.set_cons_zero, List.set_cons_succ]
          refine wpAnyH_take (i := 26) (oi := Oper.mk (some 33) (Op.load 25 (Operand.tmp 3)) 25 "law.go:47" #[Edge.mk 25 Ground.guard] (some (25, true))) (v := ?_) rfl (by kernel_rfl) (by kernel_rfl) (by kernel_rfl) (fun _ _ _ h => h) (Or.inl ⟨by rfl, ?_⟩) (by assumption) ?_
          rotate_left 1
          · (intro w hSw; (try dsimp only at hSw); go_simp; (try with_reducible rfl))
          try simp only [Act.put, List.setIfInBounds_toArray, List.set_cons_zero, List.set_cons_succ]
          refine wpAnyH_take (i := 28) (oi := Oper.mk (some 35) (Op.fieldAddr 23 (Operand.tmp 1) 0) 0 "law.go:47" #[Edge.mk 25 Ground.guard] (some (25, true))) (v := ?_) rfl (by kernel_rfl) (by kernel_rfl) (by kernel_rfl) (fun _ _ _ h => h) (Or.inl ⟨by rfl, ?_⟩) (by assumption) ?_
          rotate_left 1
          · (intro w hSw; (try dsimp only at hSw); go_simp; (try with_reducible rfl))
          try simp only [Act.put, List.setIfInBounds_toArray, List.set_cons_zero, List.set_cons_succ]
          refine wpAnyH_take (i := 29) (oi := Oper.mk (some 36) (Op.load 3 (Operand.tmp 35)) 3 "law.go:47" #[Edge.mk 28 Ground.data, Edge.mk 25 Ground.guard] (some (25, true))) (v := ?_) rfl (by kernel_rfl) (by kernel_rfl) (by kernel_rfl) (fun _ _ _ h => h) (Or.inl ⟨by rfl, ?_⟩) (by assumption) ?_
          rotate_left 1
          · (intro w hSw; (try dsimp only at hSw); go_simp; (try with_reducible rfl))
          try simp only [Act.put, List.setIfInBounds_toArray, List.set_cons_zero, List.set_cons_succ]
          refine wpAnyH_take (i := 30) (oi := Oper.mk (some 37) (Op.binOp BinOp.eql 3 (Operand.tmp 36) (Operand.const (Value.int IntKind.i64 5)) 3) 4 "law.go:47" #[Edge.mk 29 Ground.data, Edge.mk 25 Ground.guard] (some (25, true))) (v := ?_) rfl (by kernel_rfl) (by kernel_rfl) (by kernel_rfl) (fun _ _ _ h => h) (Or.inl ⟨by rfl, ?_⟩) (by assumption) ?_
          rotate_left 1
          · (intro w hSw; (try dsimp only at hSw); go_simp; (try with_reducible rfl))
          try simp only [Act.put, List.setIfInBounds_toArray, List.set_cons_zero, List.set_cons_succ]
          refine wpAnyH_ready (rs := [27]) (by kernel_rfl) (by simp) ?_
          refine AllReadyH.cons (o := Oper.mk (some 34) (Op.call (Call.mk (Callee.value (Operand.func 11)) #[Operand.tmp 33] #[25])) 4 "law.go:47" #[Edge.mk 26 Ground.data, Edge.mk 25 Ground.chain, Edge.mk 25 Ground.guard] (some (25, true))) rfl (fun K hK => ?_) AllReadyH.nil
          go_simp
          (go_at_call 11; go_split_ands; (with_reducible refine (CL.out _).mono ?_); rintro e9 v6w ⟨rfl, hb⟩; have B : Below U.heap.size U v6w := below_join (by assumption) hb; have r0 := (B.cell (p := ⟨zb, 0, none⟩) kb).trans f0; have r1 := (B.cell (p := ⟨zb, 1, none⟩) kb).trans f1; have r2 := (B.cell (p := ⟨zb, 2, none⟩) kb).trans f2; have r3 := (B.cell (p := ⟨zb, 3, none⟩) kb).trans f3; have r4 := (B.cell (p := ⟨za, 0, none⟩) ka).trans g0; have r5 := (B.cell (p := ⟨za, 1, none⟩) ka).trans g1; have r6 := (B.cell (p := ⟨za, 2, none⟩) ka).trans g2; have r7 := (B.cell (p := ⟨za, 3, none⟩) ka).trans g3; clear hb)
          go_wp2_with fail
          refine hK.out _ _ ?_ (fun hH6 => ?_)
          · ((try dsimp only); (first | (refine ⟨?_, ?_, ?_, ?_, ?_, ?_, ?_, ?_, ?_⟩ <;> first | with_reducible assumption | with_reducible exact Below_drew HBB | exact Below_drew HBB | exact below_heap HBB rfl rfl rfl rfl | assumption) | go_keep))
          clear hK K
          try clear hH5
          try simp only [Act.put, List.setIfInBounds_toArray, List.set_cons_zero, List.set_cons_succ]
          refine wpAnyH_take (i := 31) (oi := Oper.mk (some 38) (Op.move (Operand.tmp 37)) 4 "law.go:47" #[Edge.mk 30 Ground.data, Edge.mk 27 Ground.chain, Edge.mk 25 Ground.guard] (some (25, true))) (v := ?_) rfl (by kernel_rfl) (by kernel_rfl) (by kernel_rfl) (fun _ _ _ h => h) (Or.inl ⟨by rfl, ?_⟩) (by assumption) ?_
          rotate_left 1
          · (intro w hSw; (try dsimp only at hSw); go_simp; (try with_reducible rfl))
          try simp only [Act.put, List.setIfInBounds_toArray, List.set_cons_zero, List.set_cons_succ]
          refine wpAnyH_take (i := 32) (oi := Oper.mk (some 39) (Op.fieldAddr 23 (Operand.tmp 1) 0) 0 "law.go:47" #[Edge.mk 31 Ground.guard] (some (31, false))) (v := ?_) rfl (by kernel_rfl) (by kernel_rfl) (by kernel_rfl) (fun _ _ _ h => h) (Or.inl ⟨by rfl, ?_⟩) (by assumption) ?_
          rotate_left 1
          · (intro w hSw; (try dsimp only at hSw); go_simp; (try with_reducible rfl))
          try simp only [Act.put, List.setIfInBounds_toArray, List.set_cons_zero, List.set_cons_succ]
          refine wpAnyH_take (i := 33) (oi := Oper.mk (some 40) (Op.load 3 (Operand.tmp 39)) 3 "law.go:47" #[Edge.mk 32 Ground.data, Edge.mk 31 Ground.guard] (some (31, false))) (v := ?_) rfl (by kernel_rfl) (by kernel_rfl) (by kernel_rfl) (fun _ _ _ h => h) (Or.inl ⟨by rfl, ?_⟩) (by assumption) ?_
          rotate_left 1
          · (intro w hSw; (try dsimp only at hSw); go_simp; (try with_reducible rfl))
          try simp only [Act.put, List.setIfInBounds_toArray, List.set_cons_zero, List.set_cons_succ]
          refine wpAnyH_take (i := 34) (oi := Oper.mk (some 41) (Op.binOp BinOp.eql 3 (Operand.tmp 40) (Operand.const (Value.int IntKind.i64 6)) 3) 4 "law.go:47" #[Edge.mk 33 Ground.data, Edge.mk 31 Ground.guard] (some (31, false))) (v := ?_) rfl (by kernel_rfl) (by kernel_rfl) (by kernel_rfl) (fun _ _ _ h => h) (Or.inl ⟨by rfl, ?_⟩) (by assumption) ?_
          rotate_left 1
          · (intro w hSw; (try dsimp only at hSw); go_simp; (try with_reducible rfl))
          try simp only [Act.put, List.setIfInBounds_toArray, List.set_cons_zero, List.set_cons_succ]
          refine wpAnyH_take (i := 35) (oi := Oper.mk (some 42) (Op.pick (Operand.tmp 38) (Operand.const (Value.bool true)) (Operand.tmp 41)) 4 "law.go:47" #[Edge.mk 31 Ground.data, Edge.mk 34 Ground.data, Edge.mk 25 Ground.guard] (some (25, true))) (v := ?_) rfl (by kernel_rfl) (by kernel_rfl) (by kernel_rfl) (fun _ _ _ h => h) (Or.inl ⟨by rfl, ?_⟩) (by assumption) ?_
          rotate_left 1
          · (intro w hSw; (try dsimp only at hSw); go_simp; (try with_reducible rfl))
          try simp only [Act.put, List.setIfInBounds_toArray, List.set_cons_zero, List.set_cons_succ]
          refine wpAnyH_take (i := 36) (oi := Oper.mk (some 43) (Op.binOp BinOp.eql 4 (Operand.tmp 34) (Operand.tmp 42) 4) 4 "law.go:47" #[Edge.mk 27 Ground.data, Edge.mk 35 Ground.data, Edge.mk 25 Ground.guard] (some (25, true))) (v := ?_) rfl (by kernel_rfl) (by kernel_rfl) (by kernel_rfl) (fun _ _ _ h => h) (Or.inl ⟨by rfl, ?_⟩) (by assumption) ?_
          rotate_left 1
          · (intro w hSw; (try dsimp only at hSw); go_simp; (try with_reducible rfl))
          try simp only [Act.put, List.setIfInBounds_toArray, List.set_cons_zero, List.set_cons_succ]
          refine wpAnyH_take (i := 37) (oi := Oper.mk (some 44) (Op.pick (Operand.tmp 32) (Operand.tmp 43) (Operand.const (Value.bool false))) 4 "law.go:47" #[Edge.mk 25 Ground.data, Edge.mk 36 Ground.data] none) (v := ?_) rfl (by kernel_rfl) (by kernel_rfl) (by kernel_rfl) (fun _ _ _ h => h) (Or.inl ⟨by rfl, ?_⟩) (by assumption) ?_
          rotate_left 1
          · (intro w hSw; (try dsimp only at hSw); go_simp; (try with_reducible rfl))
          try simp only [Act.put, List.setIfInBounds_toArray, List.set_cons_zero, List.set_cons_succ]
          refine wpAnyH_take (i := 38) (oi := Oper.mk (some 45) (Op.move (Operand.tmp 44)) 4 "law.go:47" #[Edge.mk 37 Ground.data, Edge.mk 31 Ground.chain] none) (v := ?_) rfl (by kernel_rfl) (by kernel_rfl) (by kernel_rfl) (fun _ _ _ h => h) (Or.inl ⟨by rfl, ?_⟩) (by assumption) ?_
          rotate_left 1
          · (intro w hSw; (try dsimp only at hSw); go_simp; (try with_reducible rfl))
          try simp only [Act.put, List.setIfInBounds_toArray, List.set_cons_zero, List.set_cons_succ]
          refine wpAnyH_take (i := 39) (oi := Oper.mk (some 46) (Op.load 25 (Operand.tmp 3)) 25 "law.go:47" #[Edge.mk 38 Ground.guard] (some (38, true))) (v := ?_) rfl (by kernel_rfl) (by kernel_rfl) (by kernel_rfl) (fun _ _ _ h => h) (Or.inl ⟨by rfl, ?_⟩) (by assumption) ?_
          rotate_left 1
          · (intro w hSw; (try dsimp only at hSw); go_simp; (try with_reducible rfl))
          try simp only [Act.put, List.setIfInBounds_toArray, List.set_cons_zero, List.set_cons_succ]
          refine wpAnyH_take (i := 41) (oi := Oper.mk (some 48) (Op.load 23 (Operand.tmp 1)) 23 "law.go:47" #[Edge.mk 38 Ground.guard] (some (38, true))) (v := ?_) rfl (by kernel_rfl) (by kernel_rfl) (by kernel_rfl) (fun _ _ _ h => h) (Or.inl ⟨by rfl, ?_⟩) (by assumption) ?_
          rotate_left 1
          · (intro w hSw; (try dsimp only at hSw); go_simp; (try with_reducible rfl))
          try simp only [Act.put, List.setIfInBounds_toArray, List.set_cons_zero, List.set_cons_succ]
          refine wpAnyH_ready (rs := [40]) (by kernel_rfl) (by simp) ?_
          refine AllReadyH.cons (o := Oper.mk (some 47) (Op.call (Call.mk (Callee.value (Operand.func 13)) #[Operand.tmp 46] #[25])) 28 "law.go:47" #[Edge.mk 39 Ground.data, Edge.mk 38 Ground.chain, Edge.mk 38 Ground.guard] (some (38, true))) rfl (fun K hK => ?_) AllReadyH.nil
          go_simp
          (go_at_call 13; go_split_ands; (with_reducible refine (CC.out _).mono ?_); rintro e9 v7w ⟨v7, rfl, ho, hb⟩; obtain ⟨A7, c7, rfl, hc7, hm7, hat⟩ := at_of_own' ho; have HAT7 := Lib.hid hat; have B : Below U.heap.size U v7w := below_join (by assumption) hb; have r0 := (B.cell (p := ⟨zb, 0, none⟩) kb).trans f0; have r1 := (B.cell (p := ⟨zb, 1, none⟩) kb).trans f1; have r2 := (B.cell (p := ⟨zb, 2, none⟩) kb).trans f2; have r3 := (B.cell (p := ⟨zb, 3, none⟩) kb).trans f3; have r4 := (B.cell (p := ⟨za, 0, none⟩) ka).trans g0; have r5 := (B.cell (p := ⟨za, 1, none⟩) ka).trans g1; have r6 := (B.cell (p := ⟨za, 2, none⟩) ka).trans g2; have r7 := (B.cell (p := ⟨za, 3, none⟩) ka).trans g3; have HBw := Lib.hid B; clear hb ho hat)
          go_wp2_with fail
          refine hK.out _ _ ?_ (fun hH7 => ?_)
          · ((try dsimp only); (first | (refine ⟨?_, ?_, ?_, ?_, ?_, ?_, ?_, ?_, ?_⟩ <;> first | with_reducible assumption | with_reducible exact Below_drew HBB | exact Below_drew HBB | exact below_heap HBB rfl rfl rfl rfl | assumption) | go_keep))
          clear hK K
          try clear hH6
          try simp only [Act.put, List.setIfInBounds_toArray, List.set_cons_zero, List.set_cons_succ]
          refine wpAnyH_ready (rs := [42]) (by kernel_rfl) (by simp) ?_
          refine AllReadyH.cons (o := Oper.mk (some 49) (Op.call (Call.mk (Callee.value (Operand.func 14)) #[Operand.tmp 48] #[23])) 28 "law.go:47" #[Edge.mk 41 Ground.data, Edge.mk 40 Ground.chain, Edge.mk 38 Ground.guard] (some (38, true))) rfl (fun K hK => ?_) AllReadyH.nil
          go_simp
          (go_at_call 14; go_split_ands; (with_reducible refine (CRC.out _).mono ?_); rintro e9 v8w ⟨v8, rfl, ho, hb⟩; obtain ⟨A8, c8, rfl, hc8, hm8, hat⟩ := at_of_own' ho; have HAT8 := Lib.hid hat; have B : Below U.heap.size U v8w := below_join (by assumption) hb; have r0 := (B.cell (p := ⟨zb, 0, none⟩) kb).trans f0; have r1 := (B.cell (p := ⟨zb, 1, none⟩) kb).trans f1; have r2 := (B.cell (p := ⟨zb, 2, none⟩) kb).trans f2; have r3 := (B.cell (p := ⟨zb, 3, none⟩) kb).trans f3; have r4 := (B.cell (p := ⟨za, 0, none⟩) ka).trans g0; have r5 := (B.cell (p := ⟨za, 1, none⟩) ka).trans g1; have r6 := (B.cell (p := ⟨za, 2, none⟩) ka).trans g2; have r7 := (B.cell (p := ⟨za, 3, none⟩) ka).trans g3; have HATM := Lib.hid (HAT7.out.below (show Below v7w.heap.size v7w v8w from below_join (by first | exact Below.refl _ _ | exact Below_drew (Below.refl _ _)) hb)); have HBw := Lib.hid B; clear hb ho hat)
          go_wp2_with fail
          refine hK.out _ _ ?_ (fun hH8 => ?_)
          · ((try dsimp only); (first | (refine ⟨?_, ?_, ?_, ?_, ?_, ?_, ?_, ?_, ?_⟩ <;> first | with_reducible assumption | with_reducible exact Below_drew HBB | exact Below_drew HBB | exact below_heap HBB rfl rfl rfl rfl | assumption) | go_keep))
          clear hK K
          try clear hH7
          try simp only [Act.put, List.setIfInBounds_toArray, List.set_cons_zero, List.set_cons_succ]
          refine wpAnyH_ready (rs := [43]) (by kernel_rfl) (by simp) ?_
          refine AllReadyH.cons (o := Oper.mk (some 50) (Op.call (Call.mk (Callee.value (Operand.func 12)) #[Operand.tmp 47, Operand.tmp 49] #[28, 28])) 4 "law.go:47" #[Edge.mk 40 Ground.data, Edge.mk 42 Ground.data, Edge.mk 42 Ground.chain, Edge.mk 38 Ground.guard] (some (38, true))) rfl (fun K hK => ?_) AllReadyH.nil
          go_simp
          (go_at_call 12; go_split_ands; (with_reducible refine (CS.out A7 c7 A8 c8 _ HATM.out HAT8.out).mono ?_); rintro e9 v9w ⟨rfl, q9, rfl⟩; have B : Below U.heap.size U (v8w.drewN q9) := below_heap HBw.out rfl rfl rfl rfl; have r0 : (v8w.drewN q9).cell? ⟨zb, 0, none⟩ = some (.int .i64 k) := (B.cell (p := ⟨zb, 0, none⟩) kb).trans f0; have r1 : (v8w.drewN q9).cell? ⟨zb, 1, none⟩ = some (.int .i64 m) := (B.cell (p := ⟨zb, 1, none⟩) kb).trans f1; have r2 : (v8w.drewN q9).cell? ⟨zb, 2, none⟩ = some (.int .i64 x) := (B.cell (p := ⟨zb, 2, none⟩) kb).trans f2; have r3 : (v8w.drewN q9).cell? ⟨zb, 3, none⟩ = some (.int .i64 y) := (B.cell (p := ⟨zb, 3, none⟩) kb).trans f3; have r4 : (v8w.drewN q9).cell? ⟨za, 0, none⟩ = some (.int .i64 k) := (B.cell (p := ⟨za, 0, none⟩) ka).trans g0; have r5 : (v8w.drewN q9).cell? ⟨za, 1, none⟩ = some (.int .i64 m) := (B.cell (p := ⟨za, 1, none⟩) ka).trans g1; have r6 : (v8w.drewN q9).cell? ⟨za, 2, none⟩ = some (.int .i64 x) := (B.cell (p := ⟨za, 2, none⟩) ka).trans g2; have r7 : (v8w.drewN q9).cell? ⟨za, 3, none⟩ = some (.int .i64 y) := (B.cell (p := ⟨za, 3, none⟩) ka).trans g3; have HBf := Lib.hid B)
          go_wp2_with fail
          refine hK.out _ _ ?_ (fun hH9 => ?_)
          · ((try dsimp only); (first | (refine ⟨?_, ?_, ?_, ?_, ?_, ?_, ?_, ?_, ?_⟩ <;> first | with_reducible assumption | with_reducible exact Below_drew HBB | exact Below_drew HBB | exact below_heap HBB rfl rfl rfl rfl | assumption) | go_keep))
          clear hK K
          try clear hH8
          try simp only [Act.put, List.setIfInBounds_toArray, List.set_cons_zero, List.set_cons_succ]
          refine wpAnyH_take (i := 44) (oi := Oper.mk (some 51) (Op.pick (Operand.tmp 45) (Operand.tmp 50) (Operand.const (Value.bool false))) 4 "law.go:47" #[Edge.mk 38 Ground.data, Edge.mk 43 Ground.data] none) (v := ?_) rfl (by kernel_rfl) (by kernel_rfl) (by kernel_rfl) (fun _ _ _ h => h) (Or.inl ⟨by rfl, ?_⟩) (by assumption) ?_
          rotate_left 1
          · (intro w hSw; (try dsimp only at hSw); go_simp; (try with_reducible rfl))
          try simp only [Act.put, List.setIfInBounds_toArray, List.set_cons_zero, List.set_cons_succ]
          refine wpAnyH_take (i := 45) (oi := Oper.mk (some 2) (Op.assign (Operand.tmp 51)) 4 "law.go:47" #[Edge.mk 44 Ground.data, Edge.mk 43 Ground.chain, Edge.mk 0 Ground.phase, Edge.mk 1 Ground.phase, Edge.mk 2 Ground.phase, Edge.mk 3 Ground.phase, Edge.mk 4 Ground.phase, Edge.mk 5 Ground.phase, Edge.mk 6 Ground.phase, Edge.mk 7 Ground.phase, Edge.mk 8 Ground.phase, Edge.mk 9 Ground.phase, Edge.mk 10 Ground.phase, Edge.mk 11 Ground.phase, Edge.mk 12 Ground.phase, Edge.mk 13 Ground.phase, Edge.mk 14 Ground.phase, Edge.mk 15 Ground.phase, Edge.mk 16 Ground.phase, Edge.mk 17 Ground.phase, Edge.mk 18 Ground.phase, Edge.mk 19 Ground.phase, Edge.mk 20 Ground.phase, Edge.mk 21 Ground.phase, Edge.mk 22 Ground.phase, Edge.mk 23 Ground.phase, Edge.mk 24 Ground.phase, Edge.mk 25 Ground.phase, Edge.mk 26 Ground.phase, Edge.mk 27 Ground.phase, Edge.mk 28 Ground.phase, Edge.mk 29 Ground.phase, Edge.mk 30 Ground.phase, Edge.mk 31 Ground.phase, Edge.mk 32 Ground.phase, Edge.mk 33 Ground.phase, Edge.mk 34 Ground.phase, Edge.mk 35 Ground.phase, Edge.mk 36 Ground.phase, Edge.mk 37 Ground.phase, Edge.mk 38 Ground.phase, Edge.mk 39 Ground.phase, Edge.mk 40 Ground.phase, Edge.mk 41 Ground.phase, Edge.mk 42 Ground.phase, Edge.mk 43 Ground.phase, Edge.mk 44 Ground.phase] none) (v := ?_) rfl (by kernel_rfl) (by kernel_rfl) (by kernel_rfl) (fun _ _ _ h => h) (Or.inl ⟨by rfl, ?_⟩) (by assumption) ?_
          rotate_left 1
          · (intro w hSw; (try dsimp only at hSw); go_simp; (try with_reducible rfl))
          try simp only [Act.put, List.setIfInBounds_toArray, List.set_cons_zero, List.set_cons_succ]
          refine wpAnyH_done (by kernel_rfl) ?_ _
          all_goals (go_split_ands; go_wp2_with fail; (try go_wp2); go_ret; exact ⟨rfl, HBU.out.trans (HBf.out.mono HBU.out.size)⟩)
end Ds
end Go.Proofs.Ytcboeehmhpkodaa
