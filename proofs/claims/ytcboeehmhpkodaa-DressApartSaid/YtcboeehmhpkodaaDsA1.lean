/- DressApart: looks that may be, and aren't the same, are marked otherwise. -/
import Derived.Test.YtcboeehmhpkodaaDsS1
import Derived.Test.YtcboeehmhpkodaaPrSC
import Derived.Test.YtcboeehmhpkodaaPrU3
import Derived.Deep.RegionHeld3
import Derived.OrdersHeld
import Derived.Laws.StructEq
import Derived.Laws.Tables
namespace Go.Proofs.Ytcboeehmhpkodaa
open Go.RowKit M Ds
set_option linter.unusedVariables false
set_option linter.unusedSimpArgs false
set_option linter.unnecessarySimpa false
namespace Ds
theorem look_eq (d : Nat) (p0 p1 p2 p3 q0 q1 q2 q3 : Int) (w : World) : (Op.equalIn (d + 1 + 1) 23 (.agg #[.int .i64 p0, .int .i64 p1, .int .i64 p2, .int .i64 p3]) (.agg #[.int .i64 q0, .int .i64 q1, .int .i64 q2, .int .i64 q3])).run Try.prog w = .ok (p0 == q0 && p1 == q1 && p2 == q2 && p3 == q3) w := by
  have u3 := Try.underlying3
  have a3 := Try.isAgg3
  have z3 := Try.sizeOf3
  have hS : Try.prog.underlying 23 = some (.struct (Try.prog.fieldsOf 23)) := by kernel_rfl
  have hp : Try.prog.stoodInHeld 23 = false := by kernel_rfl
  rw [run_equalIn_struct w (d + 1) 23 _ _ hS hp]
  simp only [Program.fieldsOf, Try.underlying23]
  go_simp
  by_cases h0 : p0 = q0 <;> by_cases h1 : p1 = q1 <;> by_cases h2 : p2 = q2 <;> by_cases h3 : p3 = q3 <;> simp [h0, h1, h2, h3]
theorem attrs_len (k : Int) : (attrsM k).length ≤ 2 := by unfold attrsM; split <;> simp
theorem styles_len (m x y : Int) : (stylesM m x y).length ≤ 2 := by unfold stylesM; split <;> simp
theorem attrs_of (k : Int) : ofP (V := ByteArray) (attrsM k) = attrsM k := by unfold attrsM; split <;> rfl
theorem styles_of (m x y : Int) : ofP (V := Int) (stylesM m x y) = stylesM m x y := by
  unfold stylesM
  split
  · exact styles_set2 x y
  · rfl
set_option maxHeartbeats 20000000 in
set_option maxRecDepth 100000 in
theorem dressApart_any (k m x y k2 m2 x2 y2 : Int) (w : World) : Calls Try.prog 4 #[.agg #[.int .i64 k, .int .i64 m, .int .i64 x, .int .i64 y], .agg #[.int .i64 k2, .int .i64 m2, .int .i64 x2, .int .i64 y2]] w fun e w' => e = .returned (.bool true) ∧ Below w.heap.size w w' := by
  obtain ⟨W0, hW0⟩ : ∃ W, W = (w.alloc (.cells #[.int .i64 k, .int .i64 m, .int .i64 x, .int .i64 y] 23)).alloc (.cells #[.int .i64 k2, .int .i64 m2, .int .i64 x2, .int .i64 y2] 23) := ⟨_, rfl⟩
  have hb0 : Below w.heap.size w W0 := by rw [hW0]; exact below_more (below_alloc w _) _
  obtain ⟨za, hza⟩ : ∃ z, z = w.heap.size := ⟨_, rfl⟩
  obtain ⟨zb, hzb⟩ : ∃ z, z = za + 1 := ⟨_, rfl⟩
  have HLa := Lib.hid (show Blk W0 za 23 #[.int .i64 k, .int .i64 m, .int .i64 x, .int .i64 y] by rw [hW0, hza]; exact (Blk.new w _ _).alloc _)
  have HLb := Lib.hid (show Blk W0 zb 23 #[.int .i64 k2, .int .i64 m2, .int .i64 x2, .int .i64 y2] by rw [hW0, hzb, hza]; exact Blk.new' (w.alloc _) _ _ _ (by simp))
  have HW0 := Lib.hid hW0
  have HB0 := Lib.hid hb0
  have HZA := Lib.hid hza
  have HZB := Lib.hid hzb
  clear hW0 hb0 hza hzb
  obtain ⟨q1, hq1⟩ : ∃ q, q = mayB k m x y := ⟨_, rfl⟩
  obtain ⟨q2, hq2⟩ : ∃ q, q = mayB k2 m2 x2 y2 := ⟨_, rfl⟩
  have CD : Hid (∀ W, Calls Try.prog 6 #[.agg #[.int .i64 k, .int .i64 m, .int .i64 x, .int .i64 y]] W fun e w' => e = .returned (.bool q1) ∧ Below W.heap.size W w') := Lib.hid (fun W => by rw [hq1]; exact may_any k m x y W)
  have CM1 : Hid (∀ W, Calls Try.prog 7 #[.agg #[.int .i64 k, .int .i64 m, .int .i64 x, .int .i64 y]] W fun e w' => e = .returned (.bool q1) ∧ Below W.heap.size W w') := Lib.hid (fun W => by rw [hq1]; exact rmay_any k m x y W)
  have CM2 : Hid (∀ W, Calls Try.prog 7 #[.agg #[.int .i64 k2, .int .i64 m2, .int .i64 x2, .int .i64 y2]] W fun e w' => e = .returned (.bool q2) ∧ Below W.heap.size W w') := Lib.hid (fun W => by rw [hq2]; exact rmay_any k2 m2 x2 y2 W)
  have HQ1 := Lib.hid hq1
  have HQ2 := Lib.hid hq2
  clear hq1 hq2
  go_enter Try.func4, Try.ntmps4
  go_wp2_with fail
  rw [← HW0.out, ← HZA.out, ← HZB.out]
  (with_reducible refine (awake_any _).mono ?_)
  rintro e w1 ⟨rfl, hb1⟩
  have HLa1 := Lib.hid (HLa.out.below hb1)
  have HLb1 := Lib.hid (HLb.out.below hb1)
  have HB1 := Lib.hid (HB0.out.trans (hb1.mono HB0.out.size))
  have f0 := HLa1.out.cell 0 (v := .int .i64 k) rfl
  have f1 := HLa1.out.cell 1 (v := .int .i64 m) rfl
  have f2 := HLa1.out.cell 2 (v := .int .i64 x) rfl
  have f3 := HLa1.out.cell 3 (v := .int .i64 y) rfl
  clear hb1 HB0 HLa HLb
  go_wp2_with fail
  (with_reducible refine (CM1.out _).mono ?_)
  rintro e w2 ⟨rfl, hb2⟩
  have HLa2 := Lib.hid (HLa1.out.below hb2)
  have HLb2 := Lib.hid (HLb1.out.below hb2)
  have HB2 := Lib.hid (HB1.out.trans (hb2.mono HB1.out.size))
  clear hb2 HB1 HLa1 HLb1 f0 f1 f2 f3
  cases q1
  · have HBU := HB2
    have HLA := HLa2
    have HLB := HLb2
    clear HB2 HLa2 HLb2
    obtain ⟨U, hU⟩ : ∃ U, U = w2 := ⟨_, rfl⟩
    rw [← hU] at HBU HLA HLB ⊢
    clear hU
    have SH := Lib.hid (fun W (B : Below U.heap.size U W) => (⟨(B.cell (p := ⟨za, 0, none⟩) HLA.out.lt).trans (HLA.out.cell 0 (v := .int .i64 k) rfl), (B.cell (p := ⟨za, 1, none⟩) HLA.out.lt).trans (HLA.out.cell 1 (v := .int .i64 m) rfl), (B.cell (p := ⟨za, 2, none⟩) HLA.out.lt).trans (HLA.out.cell 2 (v := .int .i64 x) rfl), (B.cell (p := ⟨za, 3, none⟩) HLA.out.lt).trans (HLA.out.cell 3 (v := .int .i64 y) rfl), (B.cell (p := ⟨zb, 0, none⟩) HLB.out.lt).trans (HLB.out.cell 0 (v := .int .i64 k2) rfl), (B.cell (p := ⟨zb, 1, none⟩) HLB.out.lt).trans (HLB.out.cell 1 (v := .int .i64 m2) rfl), (B.cell (p := ⟨zb, 2, none⟩) HLB.out.lt).trans (HLB.out.cell 2 (v := .int .i64 x2) rfl), (B.cell (p := ⟨zb, 3, none⟩) HLB.out.lt).trans (HLB.out.cell 3 (v := .int .i64 y2) rfl), B⟩ : (fun w' => w'.cell? ⟨za, 0, none⟩ = some (.int .i64 k) ∧ w'.cell? ⟨za, 1, none⟩ = some (.int .i64 m) ∧ w'.cell? ⟨za, 2, none⟩ = some (.int .i64 x) ∧ w'.cell? ⟨za, 3, none⟩ = some (.int .i64 y) ∧ w'.cell? ⟨zb, 0, none⟩ = some (.int .i64 k2) ∧ w'.cell? ⟨zb, 1, none⟩ = some (.int .i64 m2) ∧ w'.cell? ⟨zb, 2, none⟩ = some (.int .i64 x2) ∧ w'.cell? ⟨zb, 3, none⟩ = some (.int .i64 y2) ∧ Below U.heap.size U w') W))
    go_upto_region 4 with fail
    have HB0 := Lib.hid (show Below U.heap.size U U.drew from Below_drew (Below.refl _ _))
    obtain ⟨X0, hX0⟩ : ∃ X, X = U.drew := ⟨_, rfl⟩
    refine wp_region_held_drew (S := (fun w' => w'.cell? ⟨za, 0, none⟩ = some (.int .i64 k) ∧ w'.cell? ⟨za, 1, none⟩ = some (.int .i64 m) ∧ w'.cell? ⟨za, 2, none⟩ = some (.int .i64 x) ∧ w'.cell? ⟨za, 3, none⟩ = some (.int .i64 y) ∧ w'.cell? ⟨zb, 0, none⟩ = some (.int .i64 k2) ∧ w'.cell? ⟨zb, 1, none⟩ = some (.int .i64 m2) ∧ w'.cell? ⟨zb, 2, none⟩ = some (.int .i64 x2) ∧ w'.cell? ⟨zb, 3, none⟩ = some (.int .i64 y2) ∧ Below U.heap.size U w')) (by kernel_rfl) (SH.out _ HB0.out) (fun hH0 => ?_)
    rw [← hX0] at HB0 hH0 ⊢
    clear hX0
    refine wpAnyH_take (i := 0) (oi := Oper.mk (some 18) (Op.load 23 (Operand.tmp 2)) 23 "law.go:80" #[] none) (v := ?_) rfl (by kernel_rfl) (by kernel_rfl) (by kernel_rfl) (fun _ _ _ h => h) (Or.inl ⟨by rfl, ?_⟩) (by assumption) ?_
    rotate_left 1
    · (intro w hSw; (try dsimp only at hSw); go_simp; (try with_reducible rfl))
    try simp only [Act.put, List.setIfInBounds_toArray, List.set_cons_zero, List.set_cons_succ]
    refine wpAnyH_take (i := 2) (oi := Oper.mk (some 20) (Op.load 23 (Operand.tmp 2)) 23 "law.go:80" #[] none) (v := ?_) rfl (by kernel_rfl) (by kernel_rfl) (by kernel_rfl) (fun _ _ _ h => h) (Or.inl ⟨by rfl, ?_⟩) (by assumption) ?_
    rotate_left 1
    · (intro w hSw; (try dsimp only at hSw); go_simp; (try with_reducible rfl))
    try simp only [Act.put, List.setIfInBounds_toArray, List.set_cons_zero, List.set_cons_succ]
    refine wpAnyH_ready (rs := [1]) (by kernel_rfl) (by simp) ?_
    refine AllReadyH.cons (o := Oper.mk (some 19) (Op.call (Call.mk (Callee.value (Operand.func 6)) #[Operand.tmp 18] #[25])) 4 "law.go:80" #[Edge.mk 0 Ground.data] none) rfl (fun K hK => ?_) AllReadyH.nil
    go_simp
    go_at_call 6
    (with_reducible refine (CD.out _).mono ?_)
    rintro e9 X1 ⟨rfl, hb⟩
    have HB1 := Lib.hid (HB0.out.trans (hb.mono HB0.out.size))
    clear hb HB0
    go_wp2_with fail
    refine hK.out _ _ ?_ (fun hH1 => ?_)
    · exact SH.out _ HB1.out
    clear hK K
    try clear hH0
    try simp only [Act.put, List.setIfInBounds_toArray, List.set_cons_zero, List.set_cons_succ]
    refine wpAnyH_ready (rs := [3]) (by kernel_rfl) (by simp) ?_
    refine AllReadyH.cons (o := Oper.mk (some 21) (Op.call (Call.mk (Callee.value (Operand.func 7)) #[Operand.tmp 20] #[23])) 4 "law.go:80" #[Edge.mk 2 Ground.data, Edge.mk 1 Ground.chain] none) rfl (fun K hK => ?_) AllReadyH.nil
    go_simp
    go_at_call 7
    (with_reducible refine (CM1.out _).mono ?_)
    rintro e9 X2 ⟨rfl, hb⟩
    have HB2 := Lib.hid (HB1.out.trans (hb.mono HB1.out.size))
    clear hb HB1
    go_wp2_with fail
    refine hK.out _ _ ?_ (fun hH2 => ?_)
    · exact SH.out _ HB2.out
    clear hK K
    try clear hH1
    try simp only [Act.put, List.setIfInBounds_toArray, List.set_cons_zero, List.set_cons_succ]
    refine wpAnyH_take (i := 4) (oi := Oper.mk (some 22) (Op.binOp BinOp.eql 4 (Operand.tmp 19) (Operand.tmp 21) 4) 4 "law.go:80" #[Edge.mk 1 Ground.data, Edge.mk 3 Ground.data] none) (v := ?_) rfl (by kernel_rfl) (by kernel_rfl) (by kernel_rfl) (fun _ _ _ h => h) (Or.inl ⟨by rfl, ?_⟩) (by assumption) ?_
    rotate_left 1
    · (intro w hSw; (try dsimp only at hSw); go_simp; (try with_reducible rfl))
    try simp only [Act.put, List.setIfInBounds_toArray, List.set_cons_zero, List.set_cons_succ]
    refine wpAnyH_take (i := 5) (oi := Oper.mk (some 4) (Op.assign (Operand.tmp 22)) 4 "law.go:80" #[Edge.mk 4 Ground.data, Edge.mk 3 Ground.chain, Edge.mk 0 Ground.phase, Edge.mk 1 Ground.phase, Edge.mk 2 Ground.phase, Edge.mk 3 Ground.phase, Edge.mk 4 Ground.phase] none) (v := ?_) rfl (by kernel_rfl) (by kernel_rfl) (by kernel_rfl) (fun _ _ _ h => h) (Or.inl ⟨by rfl, ?_⟩) (by assumption) ?_
    rotate_left 1
    · (intro w hSw; (try dsimp only at hSw); go_simp; (try with_reducible rfl))
    try simp only [Act.put, List.setIfInBounds_toArray, List.set_cons_zero, List.set_cons_succ]
    refine wpAnyH_done (by kernel_rfl) ?_ _
    go_wp2_with fail
    (try go_wp2)
    go_ret
    exact ⟨rfl, HBU.out.trans (HB2.out.mono HBU.out.size)⟩
  · have g0 := HLb2.out.cell 0 (v := .int .i64 k2) rfl
    have g1 := HLb2.out.cell 1 (v := .int .i64 m2) rfl
    have g2 := HLb2.out.cell 2 (v := .int .i64 x2) rfl
    have g3 := HLb2.out.cell 3 (v := .int .i64 y2) rfl
    go_wp2_with fail
    (with_reducible refine (CM2.out _).mono ?_)
    rintro e w3 ⟨rfl, hb3⟩
    have HLa3 := Lib.hid (HLa2.out.below hb3)
    have HLb3 := Lib.hid (HLb2.out.below hb3)
    have HB3 := Lib.hid (HB2.out.trans (hb3.mono HB2.out.size))
    clear hb3 HB2 HLa2 HLb2 g0 g1 g2 g3
    cases q2
    · have HBU := HB3
      have HLA := HLa3
      have HLB := HLb3
      clear HB3 HLa3 HLb3
      obtain ⟨U, hU⟩ : ∃ U, U = w3 := ⟨_, rfl⟩
      rw [← hU] at HBU HLA HLB ⊢
      clear hU
      have SH := Lib.hid (fun W (B : Below U.heap.size U W) => (⟨(B.cell (p := ⟨za, 0, none⟩) HLA.out.lt).trans (HLA.out.cell 0 (v := .int .i64 k) rfl), (B.cell (p := ⟨za, 1, none⟩) HLA.out.lt).trans (HLA.out.cell 1 (v := .int .i64 m) rfl), (B.cell (p := ⟨za, 2, none⟩) HLA.out.lt).trans (HLA.out.cell 2 (v := .int .i64 x) rfl), (B.cell (p := ⟨za, 3, none⟩) HLA.out.lt).trans (HLA.out.cell 3 (v := .int .i64 y) rfl), (B.cell (p := ⟨zb, 0, none⟩) HLB.out.lt).trans (HLB.out.cell 0 (v := .int .i64 k2) rfl), (B.cell (p := ⟨zb, 1, none⟩) HLB.out.lt).trans (HLB.out.cell 1 (v := .int .i64 m2) rfl), (B.cell (p := ⟨zb, 2, none⟩) HLB.out.lt).trans (HLB.out.cell 2 (v := .int .i64 x2) rfl), (B.cell (p := ⟨zb, 3, none⟩) HLB.out.lt).trans (HLB.out.cell 3 (v := .int .i64 y2) rfl), B⟩ : (fun w' => w'.cell? ⟨za, 0, none⟩ = some (.int .i64 k) ∧ w'.cell? ⟨za, 1, none⟩ = some (.int .i64 m) ∧ w'.cell? ⟨za, 2, none⟩ = some (.int .i64 x) ∧ w'.cell? ⟨za, 3, none⟩ = some (.int .i64 y) ∧ w'.cell? ⟨zb, 0, none⟩ = some (.int .i64 k2) ∧ w'.cell? ⟨zb, 1, none⟩ = some (.int .i64 m2) ∧ w'.cell? ⟨zb, 2, none⟩ = some (.int .i64 x2) ∧ w'.cell? ⟨zb, 3, none⟩ = some (.int .i64 y2) ∧ Below U.heap.size U w') W))
      go_upto_region 4 with fail
      have HB0 := Lib.hid (show Below U.heap.size U U.drew from Below_drew (Below.refl _ _))
      obtain ⟨X0, hX0⟩ : ∃ X, X = U.drew := ⟨_, rfl⟩
      refine wp_region_held_drew (S := (fun w' => w'.cell? ⟨za, 0, none⟩ = some (.int .i64 k) ∧ w'.cell? ⟨za, 1, none⟩ = some (.int .i64 m) ∧ w'.cell? ⟨za, 2, none⟩ = some (.int .i64 x) ∧ w'.cell? ⟨za, 3, none⟩ = some (.int .i64 y) ∧ w'.cell? ⟨zb, 0, none⟩ = some (.int .i64 k2) ∧ w'.cell? ⟨zb, 1, none⟩ = some (.int .i64 m2) ∧ w'.cell? ⟨zb, 2, none⟩ = some (.int .i64 x2) ∧ w'.cell? ⟨zb, 3, none⟩ = some (.int .i64 y2) ∧ Below U.heap.size U w')) (by kernel_rfl) (SH.out _ HB0.out) (fun hH0 => ?_)
      rw [← hX0] at HB0 hH0 ⊢
      clear hX0
      refine wpAnyH_take (i := 0) (oi := Oper.mk (some 18) (Op.load 23 (Operand.tmp 2)) 23 "law.go:80" #[] none) (v := ?_) rfl (by kernel_rfl) (by kernel_rfl) (by kernel_rfl) (fun _ _ _ h => h) (Or.inl ⟨by rfl, ?_⟩) (by assumption) ?_
      rotate_left 1
      · (intro w hSw; (try dsimp only at hSw); go_simp; (try with_reducible rfl))
      try simp only [Act.put, List.setIfInBounds_toArray, List.set_cons_zero, List.set_cons_succ]
      refine wpAnyH_take (i := 2) (oi := Oper.mk (some 20) (Op.load 23 (Operand.tmp 2)) 23 "law.go:80" #[] none) (v := ?_) rfl (by kernel_rfl) (by kernel_rfl) (by kernel_rfl) (fun _ _ _ h => h) (Or.inl ⟨by rfl, ?_⟩) (by assumption) ?_
      rotate_left 1
      · (intro w hSw; (try dsimp only at hSw); go_simp; (try with_reducible rfl))
      try simp only [Act.put, List.setIfInBounds_toArray, List.set_cons_zero, List.set_cons_succ]
      refine wpAnyH_ready (rs := [1]) (by kernel_rfl) (by simp) ?_
      refine AllReadyH.cons (o := Oper.mk (some 19) (Op.call (Call.mk (Callee.value (Operand.func 6)) #[Operand.tmp 18] #[25])) 4 "law.go:80" #[Edge.mk 0 Ground.data] none) rfl (fun K hK => ?_) AllReadyH.nil
      go_simp
      go_at_call 6
      (with_reducible refine (CD.out _).mono ?_)
      rintro e9 X1 ⟨rfl, hb⟩
      have HB1 := Lib.hid (HB0.out.trans (hb.mono HB0.out.size))
      clear hb HB0
      go_wp2_with fail
      refine hK.out _ _ ?_ (fun hH1 => ?_)
      · exact SH.out _ HB1.out
      clear hK K
      try clear hH0
      try simp only [Act.put, List.setIfInBounds_toArray, List.set_cons_zero, List.set_cons_succ]
      refine wpAnyH_ready (rs := [3]) (by kernel_rfl) (by simp) ?_
      refine AllReadyH.cons (o := Oper.mk (some 21) (Op.call (Call.mk (Callee.value (Operand.func 7)) #[Operand.tmp 20] #[23])) 4 "law.go:80" #[Edge.mk 2 Ground.data, Edge.mk 1 Ground.chain] none) rfl (fun K hK => ?_) AllReadyH.nil
      go_simp
      go_at_call 7
      (with_reducible refine (CM1.out _).mono ?_)
      rintro e9 X2 ⟨rfl, hb⟩
      have HB2 := Lib.hid (HB1.out.trans (hb.mono HB1.out.size))
      clear hb HB1
      go_wp2_with fail
      refine hK.out _ _ ?_ (fun hH2 => ?_)
      · exact SH.out _ HB2.out
      clear hK K
      try clear hH1
      try simp only [Act.put, List.setIfInBounds_toArray, List.set_cons_zero, List.set_cons_succ]
      refine wpAnyH_take (i := 4) (oi := Oper.mk (some 22) (Op.binOp BinOp.eql 4 (Operand.tmp 19) (Operand.tmp 21) 4) 4 "law.go:80" #[Edge.mk 1 Ground.data, Edge.mk 3 Ground.data] none) (v := ?_) rfl (by kernel_rfl) (by kernel_rfl) (by kernel_rfl) (fun _ _ _ h => h) (Or.inl ⟨by rfl, ?_⟩) (by assumption) ?_
      rotate_left 1
      · (intro w hSw; (try dsimp only at hSw); go_simp; (try with_reducible rfl))
      try simp only [Act.put, List.setIfInBounds_toArray, List.set_cons_zero, List.set_cons_succ]
      refine wpAnyH_take (i := 5) (oi := Oper.mk (some 4) (Op.assign (Operand.tmp 22)) 4 "law.go:80" #[Edge.mk 4 Ground.data, Edge.mk 3 Ground.chain, Edge.mk 0 Ground.phase, Edge.mk 1 Ground.phase, Edge.mk 2 Ground.phase, Edge.mk 3 Ground.phase, Edge.mk 4 Ground.phase] none) (v := ?_) rfl (by kernel_rfl) (by kernel_rfl) (by kernel_rfl) (fun _ _ _ h => h) (Or.inl ⟨by rfl, ?_⟩) (by assumption) ?_
      rotate_left 1
      · (intro w hSw; (try dsimp only at hSw); go_simp; (try with_reducible rfl))
      try simp only [Act.put, List.setIfInBounds_toArray, List.set_cons_zero, List.set_cons_succ]
      refine wpAnyH_done (by kernel_rfl) ?_ _
      go_wp2_with fail
      (try go_wp2)
      go_ret
      exact ⟨rfl, HBU.out.trans (HB2.out.mono HBU.out.size)⟩
    · have HBU := HB3
      have HLA := HLa3
      have HLB := HLb3
      clear HB3 HLa3 HLb3
      obtain ⟨U, hU⟩ : ∃ U, U = w3 := ⟨_, rfl⟩
      rw [← hU] at HBU HLA HLB ⊢
      clear hU
      have CP1 : Hid (∀ W, Calls Try.prog 15 #[.agg #[.int .i64 k, .int .i64 m, .int .i64 x, .int .i64 y], .agg #[.slice none 0 0, .slice none 0 0, .slice none 0 0]] W fun e w' => ∃ va vs vt, e = .returned (.agg #[va, vs, vt]) ∧ w'.ownsRow W.heap.size 9 1 va (marks k m).length (sv (marks k m)) ∧ w'.ownsRow W.heap.size 42 2 vs (attrsM k).length (pvS (attrsM k)) ∧ w'.ownsRow W.heap.size 56 2 vt (stylesM m x y).length (pv (stylesM m x y)) ∧ Below W.heap.size W w') := Lib.hid (fun W => by
        have h9 := put_any k m x y none 0 0 [] W rfl (by omega) (by simp) (fun _ => ⟨rfl, rfl⟩) (At.nil _ _)
        rw [List.nil_append, clean_marks _ _ _ _ HQ1.out.symm] at h9
        exact h9)
      have CP2 : Hid (∀ W, Calls Try.prog 15 #[.agg #[.int .i64 k2, .int .i64 m2, .int .i64 x2, .int .i64 y2], .agg #[.slice none 0 0, .slice none 0 0, .slice none 0 0]] W fun e w' => ∃ va vs vt, e = .returned (.agg #[va, vs, vt]) ∧ w'.ownsRow W.heap.size 9 1 va (marks k2 m2).length (sv (marks k2 m2)) ∧ w'.ownsRow W.heap.size 42 2 vs (attrsM k2).length (pvS (attrsM k2)) ∧ w'.ownsRow W.heap.size 56 2 vt (stylesM m2 x2 y2).length (pv (stylesM m2 x2 y2)) ∧ Below W.heap.size W w') := Lib.hid (fun W => by
        have h9 := put_any k2 m2 x2 y2 none 0 0 [] W rfl (by omega) (by simp) (fun _ => ⟨rfl, rfl⟩) (At.nil _ _)
        rw [List.nil_append, clean_marks _ _ _ _ HQ2.out.symm] at h9
        exact h9)
      have SH := Lib.hid (fun W (B : Below U.heap.size U W) => (⟨(B.cell (p := ⟨za, 0, none⟩) HLA.out.lt).trans (HLA.out.cell 0 (v := .int .i64 k) rfl), (B.cell (p := ⟨za, 1, none⟩) HLA.out.lt).trans (HLA.out.cell 1 (v := .int .i64 m) rfl), (B.cell (p := ⟨za, 2, none⟩) HLA.out.lt).trans (HLA.out.cell 2 (v := .int .i64 x) rfl), (B.cell (p := ⟨za, 3, none⟩) HLA.out.lt).trans (HLA.out.cell 3 (v := .int .i64 y) rfl), (B.cell (p := ⟨zb, 0, none⟩) HLB.out.lt).trans (HLB.out.cell 0 (v := .int .i64 k2) rfl), (B.cell (p := ⟨zb, 1, none⟩) HLB.out.lt).trans (HLB.out.cell 1 (v := .int .i64 m2) rfl), (B.cell (p := ⟨zb, 2, none⟩) HLB.out.lt).trans (HLB.out.cell 2 (v := .int .i64 x2) rfl), (B.cell (p := ⟨zb, 3, none⟩) HLB.out.lt).trans (HLB.out.cell 3 (v := .int .i64 y2) rfl), B⟩ : (fun w' => w'.cell? ⟨za, 0, none⟩ = some (.int .i64 k) ∧ w'.cell? ⟨za, 1, none⟩ = some (.int .i64 m) ∧ w'.cell? ⟨za, 2, none⟩ = some (.int .i64 x) ∧ w'.cell? ⟨za, 3, none⟩ = some (.int .i64 y) ∧ w'.cell? ⟨zb, 0, none⟩ = some (.int .i64 k2) ∧ w'.cell? ⟨zb, 1, none⟩ = some (.int .i64 m2) ∧ w'.cell? ⟨zb, 2, none⟩ = some (.int .i64 x2) ∧ w'.cell? ⟨zb, 3, none⟩ = some (.int .i64 y2) ∧ Below U.heap.size U w') W))
      go_upto_region 5 with fail
      go_cut [5, 6] (fun p q wx => ∃ (G5 G6 : Nat) (A1 B1 C1 A2 B2 C2 : Option Addr) (a1 b1 c1 a2 b2 c2 : Nat), p = .pointer (some ⟨G5, 0, none⟩) ∧ q = .pointer (some ⟨G6, 0, none⟩) ∧ Hid (Blk wx G5 36 #[.slice A1 (marks k m).length a1, .slice B1 (attrsM k).length b1, .slice C1 (stylesM m x y).length c1]) ∧ Hid (Blk wx G6 36 #[.slice A2 (marks k2 m2).length a2, .slice B2 (attrsM k2).length b2, .slice C2 (stylesM m2 x2 y2).length c2]) ∧ Hid (wx.ownsRow U.heap.size 9 1 (.slice A1 (marks k m).length a1) (marks k m).length (sv (marks k m))) ∧ Hid (wx.ownsRow U.heap.size 42 2 (.slice B1 (attrsM k).length b1) (attrsM k).length (pvS (attrsM k))) ∧ Hid (wx.ownsRow U.heap.size 56 2 (.slice C1 (stylesM m x y).length c1) (stylesM m x y).length (pv (stylesM m x y))) ∧ Hid (wx.ownsRow U.heap.size 9 1 (.slice A2 (marks k2 m2).length a2) (marks k2 m2).length (sv (marks k2 m2))) ∧ Hid (wx.ownsRow U.heap.size 42 2 (.slice B2 (attrsM k2).length b2) (attrsM k2).length (pvS (attrsM k2))) ∧ Hid (wx.ownsRow U.heap.size 56 2 (.slice C2 (stylesM m2 x2 y2).length c2) (stylesM m2 x2 y2).length (pv (stylesM m2 x2 y2))) ∧ Hid (Below U.heap.size U wx))
      case first =>
        have HB0 := Lib.hid (show Below U.heap.size U U.drew from Below_drew (Below.refl _ _))
        obtain ⟨X0, hX0⟩ : ∃ X, X = U.drew := ⟨_, rfl⟩
        refine wp_region_held_drew (S := (fun w' => w'.cell? ⟨za, 0, none⟩ = some (.int .i64 k) ∧ w'.cell? ⟨za, 1, none⟩ = some (.int .i64 m) ∧ w'.cell? ⟨za, 2, none⟩ = some (.int .i64 x) ∧ w'.cell? ⟨za, 3, none⟩ = some (.int .i64 y) ∧ w'.cell? ⟨zb, 0, none⟩ = some (.int .i64 k2) ∧ w'.cell? ⟨zb, 1, none⟩ = some (.int .i64 m2) ∧ w'.cell? ⟨zb, 2, none⟩ = some (.int .i64 x2) ∧ w'.cell? ⟨zb, 3, none⟩ = some (.int .i64 y2) ∧ Below U.heap.size U w')) (by kernel_rfl) (SH.out _ HB0.out) (fun hH0 => ?_)
        rw [← hX0] at HB0 hH0 ⊢
        clear hX0
        refine wpAnyH_take (i := 0) (oi := Oper.mk (some 23) (Op.load 23 (Operand.tmp 2)) 23 "law.go:82" #[] none) (v := ?_) rfl (by kernel_rfl) (by kernel_rfl) (by kernel_rfl) (fun _ _ _ h => h) (Or.inl ⟨by rfl, ?_⟩) (by assumption) ?_
        rotate_left 1
        · (intro w hSw; (try dsimp only at hSw); go_simp; (try with_reducible rfl))
        try simp only [Act.put, List.setIfInBounds_toArray, List.set_cons_zero, List.set_cons_succ]
        refine wpAnyH_take (i := 1) (oi := Oper.mk (some 24) (Op.build 36 #[]) 36 "law.go:82" #[] none) (v := ?_) rfl (by kernel_rfl) (by kernel_rfl) (by kernel_rfl) (fun _ _ _ h => h) (Or.inl ⟨by rfl, ?_⟩) (by assumption) ?_
        rotate_left 1
        · (intro w hSw; (try dsimp only at hSw); go_simp; (try with_reducible rfl))
        try simp only [Act.put, List.setIfInBounds_toArray, List.set_cons_zero, List.set_cons_succ]
        refine wpAnyH_take (i := 3) (oi := Oper.mk (some 26) (Op.load 23 (Operand.tmp 3)) 23 "law.go:82" #[] none) (v := ?_) rfl (by kernel_rfl) (by kernel_rfl) (by kernel_rfl) (fun _ _ _ h => h) (Or.inl ⟨by rfl, ?_⟩) (by assumption) ?_
        rotate_left 1
        · (intro w hSw; (try dsimp only at hSw); go_simp; (try with_reducible rfl))
        try simp only [Act.put, List.setIfInBounds_toArray, List.set_cons_zero, List.set_cons_succ]
        refine wpAnyH_take (i := 4) (oi := Oper.mk (some 27) (Op.build 36 #[]) 36 "law.go:82" #[] none) (v := ?_) rfl (by kernel_rfl) (by kernel_rfl) (by kernel_rfl) (fun _ _ _ h => h) (Or.inl ⟨by rfl, ?_⟩) (by assumption) ?_
        rotate_left 1
        · (intro w hSw; (try dsimp only at hSw); go_simp; (try with_reducible rfl))
        try simp only [Act.put, List.setIfInBounds_toArray, List.set_cons_zero, List.set_cons_succ]
        refine wpAnyH_ready (rs := [2, 6, 7]) (by kernel_rfl) (by simp) ?_
        refine (AllReadyH.cons (o := Oper.mk (some 25) (Op.call (Call.mk (Callee.value (Operand.func 15)) #[Operand.tmp 23, Operand.tmp 24] #[25, 36])) 36 "law.go:82" #[Edge.mk 0 Ground.data, Edge.mk 1 Ground.data] none) rfl (fun K hK => ?_) (AllReadyH.cons (o := Oper.mk (some 5) (Op.alloc 36) 0 "law.go:82" #[] none) rfl (fun K hK => ?_) (AllReadyH.cons (o := Oper.mk (some 6) (Op.alloc 36) 0 "law.go:82" #[] none) rfl (fun K hK => ?_) AllReadyH.nil)))
        · go_simp
          go_at_call 15
          (with_reducible refine (CP1.out _).mono ?_)
          rintro e9 X1 ⟨va, vs, vt, rfl, ha, hs, ht, hb⟩
          obtain ⟨A1, a1, rfl, _, _⟩ := own_slice ha
          obtain ⟨B1, b1, rfl, _, _⟩ := own_slice hs
          obtain ⟨C1, c1, rfl, _, _⟩ := own_slice ht
          have HB1 := Lib.hid (HB0.out.trans (hb.mono HB0.out.size))
          have RA1x1 := Lib.hid (own_mono ha HB0.out.size)
          have RS1x1 := Lib.hid (own_mono hs HB0.out.size)
          have RT1x1 := Lib.hid (own_mono ht HB0.out.size)
          clear ha hs ht hb HB0
          go_wp2_with fail
          refine hK.out _ _ ?_ (fun hH1 => ?_)
          · exact SH.out _ HB1.out
          clear hK K
          try clear hH0
          try simp only [Act.put, List.setIfInBounds_toArray, List.set_cons_zero, List.set_cons_succ]
          refine wpAnyH_ready (rs := [5, 6, 7]) (by kernel_rfl) (by simp) ?_
          refine (AllReadyH.cons (o := Oper.mk (some 28) (Op.call (Call.mk (Callee.value (Operand.func 15)) #[Operand.tmp 26, Operand.tmp 27] #[25, 36])) 36 "law.go:82" #[Edge.mk 3 Ground.data, Edge.mk 4 Ground.data, Edge.mk 2 Ground.chain] none) rfl (fun K hK => ?_) (AllReadyH.cons (o := Oper.mk (some 5) (Op.alloc 36) 0 "law.go:82" #[] none) rfl (fun K hK => ?_) (AllReadyH.cons (o := Oper.mk (some 6) (Op.alloc 36) 0 "law.go:82" #[] none) rfl (fun K hK => ?_) AllReadyH.nil)))
          · go_simp
            go_at_call 15
            (with_reducible refine (CP2.out _).mono ?_)
            rintro e9 X2 ⟨va, vs, vt, rfl, ha, hs, ht, hb⟩
            obtain ⟨A2, a2, rfl, _, _⟩ := own_slice ha
            obtain ⟨B2, b2, rfl, _, _⟩ := own_slice hs
            obtain ⟨C2, c2, rfl, _, _⟩ := own_slice ht
            have HB2 := Lib.hid (HB1.out.trans (hb.mono HB1.out.size))
            have RA2x2 := Lib.hid (own_mono ha HB1.out.size)
            have RS2x2 := Lib.hid (own_mono hs HB1.out.size)
            have RT2x2 := Lib.hid (own_mono ht HB1.out.size)
            have RA1x2 := Lib.hid (own_below RA1x1.out hb)
            clear RA1x1
            have RS1x2 := Lib.hid (own_below RS1x1.out hb)
            clear RS1x1
            have RT1x2 := Lib.hid (own_below RT1x1.out hb)
            clear RT1x1
            clear ha hs ht hb HB1
            go_wp2_with fail
            refine hK.out _ _ ?_ (fun hH2 => ?_)
            · exact SH.out _ HB2.out
            clear hK K
            try clear hH1
            try simp only [Act.put, List.setIfInBounds_toArray, List.set_cons_zero, List.set_cons_succ]
            refine wpAnyH_ready (rs := [6, 7]) (by kernel_rfl) (by simp) ?_
            refine (AllReadyH.cons (o := Oper.mk (some 5) (Op.alloc 36) 0 "law.go:82" #[] none) rfl (fun K hK => ?_) (AllReadyH.cons (o := Oper.mk (some 6) (Op.alloc 36) 0 "law.go:82" #[] none) rfl (fun K hK => ?_) AllReadyH.nil))
            · go_simp
              obtain ⟨X3, hX⟩ : ∃ X, X = X2.alloc (.cells #[.slice none 0 0, .slice none 0 0, .slice none 0 0] 36) := ⟨_, rfl⟩
              obtain ⟨G5, hg⟩ : ∃ g, g = X2.heap.size := ⟨_, rfl⟩
              rw [← hX, ← hg]
              have hb : Below X2.heap.size X2 X3 := by rw [hX]; exact below_alloc _ _
              have K5x3 := Lib.hid (show Blk X3 G5 36 #[.slice none 0 0, .slice none 0 0, .slice none 0 0] by rw [hX, hg]; exact Blk.new _ _ _)
              have HL5 := Lib.hid (show U.heap.size ≤ G5 by rw [hg]; exact HB2.out.size)
              have HB3 := Lib.hid (HB2.out.trans (hb.mono HB2.out.size))
              have RA1x3 := Lib.hid (own_below RA1x2.out hb)
              clear RA1x2
              have RS1x3 := Lib.hid (own_below RS1x2.out hb)
              clear RS1x2
              have RT1x3 := Lib.hid (own_below RT1x2.out hb)
              clear RT1x2
              have RA2x3 := Lib.hid (own_below RA2x2.out hb)
              clear RA2x2
              have RS2x3 := Lib.hid (own_below RS2x2.out hb)
              clear RS2x2
              have RT2x3 := Lib.hid (own_below RT2x2.out hb)
              clear RT2x2
              clear hX hg hb HB2
              refine hK.out _ _ ?_ (fun hH3 => ?_)
              · exact SH.out _ HB3.out
              clear hK K
              try clear hH2
              try simp only [Act.put, List.setIfInBounds_toArray, List.set_cons_zero, List.set_cons_succ]
              refine wpAnyH_ready (rs := [7]) (by kernel_rfl) (by simp) ?_
              refine (AllReadyH.cons (o := Oper.mk (some 6) (Op.alloc 36) 0 "law.go:82" #[] none) rfl (fun K hK => ?_) AllReadyH.nil)
              go_simp
              obtain ⟨X4, hX⟩ : ∃ X, X = X3.alloc (.cells #[.slice none 0 0, .slice none 0 0, .slice none 0 0] 36) := ⟨_, rfl⟩
              obtain ⟨G6, hg⟩ : ∃ g, g = X3.heap.size := ⟨_, rfl⟩
              rw [← hX, ← hg]
              have hb : Below X3.heap.size X3 X4 := by rw [hX]; exact below_alloc _ _
              have K6x4 := Lib.hid (show Blk X4 G6 36 #[.slice none 0 0, .slice none 0 0, .slice none 0 0] by rw [hX, hg]; exact Blk.new _ _ _)
              have HL6 := Lib.hid (show U.heap.size ≤ G6 by rw [hg]; exact HB3.out.size)
              have HB4 := Lib.hid (HB3.out.trans (hb.mono HB3.out.size))
              have HNE := Lib.hid (show G5 ≠ G6 by have := K5x3.out.lt; omega)
              have RA1x4 := Lib.hid (own_below RA1x3.out hb)
              clear RA1x3
              have RS1x4 := Lib.hid (own_below RS1x3.out hb)
              clear RS1x3
              have RT1x4 := Lib.hid (own_below RT1x3.out hb)
              clear RT1x3
              have RA2x4 := Lib.hid (own_below RA2x3.out hb)
              clear RA2x3
              have RS2x4 := Lib.hid (own_below RS2x3.out hb)
              clear RS2x3
              have RT2x4 := Lib.hid (own_below RT2x3.out hb)
              clear RT2x3
              have K5x4 := Lib.hid (K5x3.out.below hb)
              clear K5x3
              clear hX hg hb HB3
              refine hK.out _ _ ?_ (fun hH4 => ?_)
              · exact SH.out _ HB4.out
              clear hK K
              try clear hH3
              try simp only [Act.put, List.setIfInBounds_toArray, List.set_cons_zero, List.set_cons_succ]
              refine wpAnyH_ready (rs := [8]) (by kernel_rfl) (by simp) ?_
              refine (AllReadyH.cons (o := Oper.mk none (Op.store 36 (Operand.tmp 5) (Operand.tmp 25)) 0 "law.go:82" #[Edge.mk 6 Ground.data, Edge.mk 2 Ground.data, Edge.mk 5 Ground.chain, Edge.mk 0 Ground.phase, Edge.mk 1 Ground.phase, Edge.mk 2 Ground.phase, Edge.mk 3 (Ground.textOnly Departure.lateStores), Edge.mk 4 (Ground.textOnly Departure.lateStores), Edge.mk 5 (Ground.textOnly Departure.lateStoresUnsure), Edge.mk 6 Ground.phase, Edge.mk 7 Ground.phase] none) rfl (fun K hK => ?_) AllReadyH.nil)
              obtain ⟨⟨e0, e1, e2⟩, p0, p1, p2⟩ := cells3 K5x4.out
              go_simp
              obtain ⟨X5, hX⟩ : ∃ X, X = ((X4.setCell ⟨G5, 0, none⟩ (.slice A1 (marks k m).length a1)).setCell ⟨G5, 1, none⟩ (.slice B1 (attrsM k).length b1)).setCell ⟨G5, 2, none⟩ (.slice C1 (stylesM m x y).length c1) := ⟨_, rfl⟩
              rw [← hX]
              clear e0 e1 e2 p0 p1 p2
              have HB5 := Lib.hid (show Below U.heap.size U X5 by rw [hX]; exact ((HB4.out.setCell (p := ⟨G5, 0, none⟩) HL5.out _).setCell (p := ⟨G5, 1, none⟩) HL5.out _).setCell (p := ⟨G5, 2, none⟩) HL5.out _)
              have K5x5 := Lib.hid (show Blk X5 G5 36 #[.slice A1 (marks k m).length a1, .slice B1 (attrsM k).length b1, .slice C1 (stylesM m x y).length c1] by rw [hX]; exact blk_set3 K5x4.out)
              have K6x5 := K6x4
              replace K6x5 := Lib.hid (show Blk X5 G6 36 _ by rw [hX]; exact ((K6x4.out.other _ _ _ (by have := HNE.out; omega)).other _ _ _ (by have := HNE.out; omega)).other _ _ _ (by have := HNE.out; omega))
              have RA1x5 := Lib.hid (by rw [hX]; exact keep3 RA1x4.out K5x4.out (by decide) : X5.ownsRow _ _ _ _ _ _)
              have RS1x5 := Lib.hid (by rw [hX]; exact keep3 RS1x4.out K5x4.out (by decide) : X5.ownsRow _ _ _ _ _ _)
              have RT1x5 := Lib.hid (by rw [hX]; exact keep3 RT1x4.out K5x4.out (by decide) : X5.ownsRow _ _ _ _ _ _)
              have RA2x5 := Lib.hid (by rw [hX]; exact keep3 RA2x4.out K5x4.out (by decide) : X5.ownsRow _ _ _ _ _ _)
              have RS2x5 := Lib.hid (by rw [hX]; exact keep3 RS2x4.out K5x4.out (by decide) : X5.ownsRow _ _ _ _ _ _)
              have RT2x5 := Lib.hid (by rw [hX]; exact keep3 RT2x4.out K5x4.out (by decide) : X5.ownsRow _ _ _ _ _ _)
              clear hX HB4 RA1x4 RS1x4 RT1x4 RA2x4 RS2x4 RT2x4 K5x4 K6x4
              refine hK.out _ _ ?_ (fun hH5 => ?_)
              · exact SH.out _ HB5.out
              clear hK K
              try clear hH4
              try simp only [Act.put, List.setIfInBounds_toArray, List.set_cons_zero, List.set_cons_succ]
              refine wpAnyH_ready (rs := [9]) (by kernel_rfl) (by simp) ?_
              refine (AllReadyH.cons (o := Oper.mk none (Op.store 36 (Operand.tmp 6) (Operand.tmp 28)) 0 "law.go:82" #[Edge.mk 7 Ground.data, Edge.mk 5 Ground.data, Edge.mk 8 Ground.chain, Edge.mk 0 Ground.phase, Edge.mk 1 Ground.phase, Edge.mk 2 Ground.phase, Edge.mk 3 Ground.phase, Edge.mk 4 Ground.phase, Edge.mk 5 Ground.phase, Edge.mk 6 Ground.phase, Edge.mk 7 Ground.phase, Edge.mk 8 Ground.phase] none) rfl (fun K hK => ?_) AllReadyH.nil)
              obtain ⟨⟨e0, e1, e2⟩, p0, p1, p2⟩ := cells3 K6x5.out
              go_simp
              obtain ⟨X6, hX⟩ : ∃ X, X = ((X5.setCell ⟨G6, 0, none⟩ (.slice A2 (marks k2 m2).length a2)).setCell ⟨G6, 1, none⟩ (.slice B2 (attrsM k2).length b2)).setCell ⟨G6, 2, none⟩ (.slice C2 (stylesM m2 x2 y2).length c2) := ⟨_, rfl⟩
              rw [← hX]
              clear e0 e1 e2 p0 p1 p2
              have HB6 := Lib.hid (show Below U.heap.size U X6 by rw [hX]; exact ((HB5.out.setCell (p := ⟨G6, 0, none⟩) HL6.out _).setCell (p := ⟨G6, 1, none⟩) HL6.out _).setCell (p := ⟨G6, 2, none⟩) HL6.out _)
              have K6x6 := Lib.hid (show Blk X6 G6 36 #[.slice A2 (marks k2 m2).length a2, .slice B2 (attrsM k2).length b2, .slice C2 (stylesM m2 x2 y2).length c2] by rw [hX]; exact blk_set3 K6x5.out)
              have K5x6 := K5x5
              replace K5x6 := Lib.hid (show Blk X6 G5 36 _ by rw [hX]; exact ((K5x5.out.other _ _ _ (by have := HNE.out; omega)).other _ _ _ (by have := HNE.out; omega)).other _ _ _ (by have := HNE.out; omega))
              have RA1x6 := Lib.hid (by rw [hX]; exact keep3 RA1x5.out K6x5.out (by decide) : X6.ownsRow _ _ _ _ _ _)
              have RS1x6 := Lib.hid (by rw [hX]; exact keep3 RS1x5.out K6x5.out (by decide) : X6.ownsRow _ _ _ _ _ _)
              have RT1x6 := Lib.hid (by rw [hX]; exact keep3 RT1x5.out K6x5.out (by decide) : X6.ownsRow _ _ _ _ _ _)
              have RA2x6 := Lib.hid (by rw [hX]; exact keep3 RA2x5.out K6x5.out (by decide) : X6.ownsRow _ _ _ _ _ _)
              have RS2x6 := Lib.hid (by rw [hX]; exact keep3 RS2x5.out K6x5.out (by decide) : X6.ownsRow _ _ _ _ _ _)
              have RT2x6 := Lib.hid (by rw [hX]; exact keep3 RT2x5.out K6x5.out (by decide) : X6.ownsRow _ _ _ _ _ _)
              clear hX HB5 RA1x5 RS1x5 RT1x5 RA2x5 RS2x5 RT2x5 K5x5 K6x5
              refine hK.out _ _ ?_ (fun hH6 => ?_)
              · exact SH.out _ HB6.out
              clear hK K
              try clear hH5
              try simp only [Act.put, List.setIfInBounds_toArray, List.set_cons_zero, List.set_cons_succ]
              refine wpAnyH_done (by kernel_rfl) ?_ _
              go_wp2_with fail
              go_meet
              exact ⟨G5, G6, A1, B1, C1, A2, B2, C2, a1, b1, c1, a2, b2, c2, rfl, rfl, K5x6, K6x6, RA1x6, RS1x6, RT1x6, RA2x6, RS2x6, RT2x6, HB6⟩
            · go_simp
              obtain ⟨X3, hX⟩ : ∃ X, X = X2.alloc (.cells #[.slice none 0 0, .slice none 0 0, .slice none 0 0] 36) := ⟨_, rfl⟩
              obtain ⟨G6, hg⟩ : ∃ g, g = X2.heap.size := ⟨_, rfl⟩
              rw [← hX, ← hg]
              have hb : Below X2.heap.size X2 X3 := by rw [hX]; exact below_alloc _ _
              have K6x3 := Lib.hid (show Blk X3 G6 36 #[.slice none 0 0, .slice none 0 0, .slice none 0 0] by rw [hX, hg]; exact Blk.new _ _ _)
              have HL6 := Lib.hid (show U.heap.size ≤ G6 by rw [hg]; exact HB2.out.size)
              have HB3 := Lib.hid (HB2.out.trans (hb.mono HB2.out.size))
              have RA1x3 := Lib.hid (own_below RA1x2.out hb)
              clear RA1x2
              have RS1x3 := Lib.hid (own_below RS1x2.out hb)
              clear RS1x2
              have RT1x3 := Lib.hid (own_below RT1x2.out hb)
              clear RT1x2
              have RA2x3 := Lib.hid (own_below RA2x2.out hb)
              clear RA2x2
              have RS2x3 := Lib.hid (own_below RS2x2.out hb)
              clear RS2x2
              have RT2x3 := Lib.hid (own_below RT2x2.out hb)
              clear RT2x2
              clear hX hg hb HB2
              refine hK.out _ _ ?_ (fun hH3 => ?_)
              · exact SH.out _ HB3.out
              clear hK K
              try clear hH2
              try simp only [Act.put, List.setIfInBounds_toArray, List.set_cons_zero, List.set_cons_succ]
              refine wpAnyH_ready (rs := [6]) (by kernel_rfl) (by simp) ?_
              refine (AllReadyH.cons (o := Oper.mk (some 5) (Op.alloc 36) 0 "law.go:82" #[] none) rfl (fun K hK => ?_) AllReadyH.nil)
              go_simp
              obtain ⟨X4, hX⟩ : ∃ X, X = X3.alloc (.cells #[.slice none 0 0, .slice none 0 0, .slice none 0 0] 36) := ⟨_, rfl⟩
              obtain ⟨G5, hg⟩ : ∃ g, g = X3.heap.size := ⟨_, rfl⟩
              rw [← hX, ← hg]
              have hb : Below X3.heap.size X3 X4 := by rw [hX]; exact below_alloc _ _
              have K5x4 := Lib.hid (show Blk X4 G5 36 #[.slice none 0 0, .slice none 0 0, .slice none 0 0] by rw [hX, hg]; exact Blk.new _ _ _)
              have HL5 := Lib.hid (show U.heap.size ≤ G5 by rw [hg]; exact HB3.out.size)
              have HB4 := Lib.hid (HB3.out.trans (hb.mono HB3.out.size))
              have HNE := Lib.hid (show G5 ≠ G6 by have := K6x3.out.lt; omega)
              have RA1x4 := Lib.hid (own_below RA1x3.out hb)
              clear RA1x3
              have RS1x4 := Lib.hid (own_below RS1x3.out hb)
              clear RS1x3
              have RT1x4 := Lib.hid (own_below RT1x3.out hb)
              clear RT1x3
              have RA2x4 := Lib.hid (own_below RA2x3.out hb)
              clear RA2x3
              have RS2x4 := Lib.hid (own_below RS2x3.out hb)
              clear RS2x3
              have RT2x4 := Lib.hid (own_below RT2x3.out hb)
              clear RT2x3
              have K6x4 := Lib.hid (K6x3.out.below hb)
              clear K6x3
              clear hX hg hb HB3
              refine hK.out _ _ ?_ (fun hH4 => ?_)
              · exact SH.out _ HB4.out
              clear hK K
              try clear hH3
              try simp only [Act.put, List.setIfInBounds_toArray, List.set_cons_zero, List.set_cons_succ]
              refine wpAnyH_ready (rs := [8]) (by kernel_rfl) (by simp) ?_
              refine (AllReadyH.cons (o := Oper.mk none (Op.store 36 (Operand.tmp 5) (Operand.tmp 25)) 0 "law.go:82" #[Edge.mk 6 Ground.data, Edge.mk 2 Ground.data, Edge.mk 5 Ground.chain, Edge.mk 0 Ground.phase, Edge.mk 1 Ground.phase, Edge.mk 2 Ground.phase, Edge.mk 3 (Ground.textOnly Departure.lateStores), Edge.mk 4 (Ground.textOnly Departure.lateStores), Edge.mk 5 (Ground.textOnly Departure.lateStoresUnsure), Edge.mk 6 Ground.phase, Edge.mk 7 Ground.phase] none) rfl (fun K hK => ?_) AllReadyH.nil)
              obtain ⟨⟨e0, e1, e2⟩, p0, p1, p2⟩ := cells3 K5x4.out
              go_simp
              obtain ⟨X5, hX⟩ : ∃ X, X = ((X4.setCell ⟨G5, 0, none⟩ (.slice A1 (marks k m).length a1)).setCell ⟨G5, 1, none⟩ (.slice B1 (attrsM k).length b1)).setCell ⟨G5, 2, none⟩ (.slice C1 (stylesM m x y).length c1) := ⟨_, rfl⟩
              rw [← hX]
              clear e0 e1 e2 p0 p1 p2
              have HB5 := Lib.hid (show Below U.heap.size U X5 by rw [hX]; exact ((HB4.out.setCell (p := ⟨G5, 0, none⟩) HL5.out _).setCell (p := ⟨G5, 1, none⟩) HL5.out _).setCell (p := ⟨G5, 2, none⟩) HL5.out _)
              have K5x5 := Lib.hid (show Blk X5 G5 36 #[.slice A1 (marks k m).length a1, .slice B1 (attrsM k).length b1, .slice C1 (stylesM m x y).length c1] by rw [hX]; exact blk_set3 K5x4.out)
              have K6x5 := K6x4
              replace K6x5 := Lib.hid (show Blk X5 G6 36 _ by rw [hX]; exact ((K6x4.out.other _ _ _ (by have := HNE.out; omega)).other _ _ _ (by have := HNE.out; omega)).other _ _ _ (by have := HNE.out; omega))
              have RA1x5 := Lib.hid (by rw [hX]; exact keep3 RA1x4.out K5x4.out (by decide) : X5.ownsRow _ _ _ _ _ _)
              have RS1x5 := Lib.hid (by rw [hX]; exact keep3 RS1x4.out K5x4.out (by decide) : X5.ownsRow _ _ _ _ _ _)
              have RT1x5 := Lib.hid (by rw [hX]; exact keep3 RT1x4.out K5x4.out (by decide) : X5.ownsRow _ _ _ _ _ _)
              have RA2x5 := Lib.hid (by rw [hX]; exact keep3 RA2x4.out K5x4.out (by decide) : X5.ownsRow _ _ _ _ _ _)
              have RS2x5 := Lib.hid (by rw [hX]; exact keep3 RS2x4.out K5x4.out (by decide) : X5.ownsRow _ _ _ _ _ _)
              have RT2x5 := Lib.hid (by rw [hX]; exact keep3 RT2x4.out K5x4.out (by decide) : X5.ownsRow _ _ _ _ _ _)
              clear hX HB4 RA1x4 RS1x4 RT1x4 RA2x4 RS2x4 RT2x4 K6x4 K5x4
              refine hK.out _ _ ?_ (fun hH5 => ?_)
              · exact SH.out _ HB5.out
              clear hK K
              try clear hH4
              try simp only [Act.put, List.setIfInBounds_toArray, List.set_cons_zero, List.set_cons_succ]
              refine wpAnyH_ready (rs := [9]) (by kernel_rfl) (by simp) ?_
              refine (AllReadyH.cons (o := Oper.mk none (Op.store 36 (Operand.tmp 6) (Operand.tmp 28)) 0 "law.go:82" #[Edge.mk 7 Ground.data, Edge.mk 5 Ground.data, Edge.mk 8 Ground.chain, Edge.mk 0 Ground.phase, Edge.mk 1 Ground.phase, Edge.mk 2 Ground.phase, Edge.mk 3 Ground.phase, Edge.mk 4 Ground.phase, Edge.mk 5 Ground.phase, Edge.mk 6 Ground.phase, Edge.mk 7 Ground.phase, Edge.mk 8 Ground.phase] none) rfl (fun K hK => ?_) AllReadyH.nil)
              obtain ⟨⟨e0, e1, e2⟩, p0, p1, p2⟩ := cells3 K6x5.out
              go_simp
              obtain ⟨X6, hX⟩ : ∃ X, X = ((X5.setCell ⟨G6, 0, none⟩ (.slice A2 (marks k2 m2).length a2)).setCell ⟨G6, 1, none⟩ (.slice B2 (attrsM k2).length b2)).setCell ⟨G6, 2, none⟩ (.slice C2 (stylesM m2 x2 y2).length c2) := ⟨_, rfl⟩
              rw [← hX]
              clear e0 e1 e2 p0 p1 p2
              have HB6 := Lib.hid (show Below U.heap.size U X6 by rw [hX]; exact ((HB5.out.setCell (p := ⟨G6, 0, none⟩) HL6.out _).setCell (p := ⟨G6, 1, none⟩) HL6.out _).setCell (p := ⟨G6, 2, none⟩) HL6.out _)
              have K6x6 := Lib.hid (show Blk X6 G6 36 #[.slice A2 (marks k2 m2).length a2, .slice B2 (attrsM k2).length b2, .slice C2 (stylesM m2 x2 y2).length c2] by rw [hX]; exact blk_set3 K6x5.out)
              have K5x6 := K5x5
              replace K5x6 := Lib.hid (show Blk X6 G5 36 _ by rw [hX]; exact ((K5x5.out.other _ _ _ (by have := HNE.out; omega)).other _ _ _ (by have := HNE.out; omega)).other _ _ _ (by have := HNE.out; omega))
              have RA1x6 := Lib.hid (by rw [hX]; exact keep3 RA1x5.out K6x5.out (by decide) : X6.ownsRow _ _ _ _ _ _)
              have RS1x6 := Lib.hid (by rw [hX]; exact keep3 RS1x5.out K6x5.out (by decide) : X6.ownsRow _ _ _ _ _ _)
              have RT1x6 := Lib.hid (by rw [hX]; exact keep3 RT1x5.out K6x5.out (by decide) : X6.ownsRow _ _ _ _ _ _)
              have RA2x6 := Lib.hid (by rw [hX]; exact keep3 RA2x5.out K6x5.out (by decide) : X6.ownsRow _ _ _ _ _ _)
              have RS2x6 := Lib.hid (by rw [hX]; exact keep3 RS2x5.out K6x5.out (by decide) : X6.ownsRow _ _ _ _ _ _)
              have RT2x6 := Lib.hid (by rw [hX]; exact keep3 RT2x5.out K6x5.out (by decide) : X6.ownsRow _ _ _ _ _ _)
              clear hX HB5 RA1x5 RS1x5 RT1x5 RA2x5 RS2x5 RT2x5 K6x5 K5x5
              refine hK.out _ _ ?_ (fun hH6 => ?_)
              · exact SH.out _ HB6.out
              clear hK K
              try clear hH5
              try simp only [Act.put, List.setIfInBounds_toArray, List.set_cons_zero, List.set_cons_succ]
              refine wpAnyH_done (by kernel_rfl) ?_ _
              go_wp2_with fail
              go_meet
              exact ⟨G5, G6, A1, B1, C1, A2, B2, C2, a1, b1, c1, a2, b2, c2, rfl, rfl, K5x6, K6x6, RA1x6, RS1x6, RT1x6, RA2x6, RS2x6, RT2x6, HB6⟩
          · go_simp
            obtain ⟨X2, hX⟩ : ∃ X, X = X1.alloc (.cells #[.slice none 0 0, .slice none 0 0, .slice none 0 0] 36) := ⟨_, rfl⟩
            obtain ⟨G5, hg⟩ : ∃ g, g = X1.heap.size := ⟨_, rfl⟩
            rw [← hX, ← hg]
            have hb : Below X1.heap.size X1 X2 := by rw [hX]; exact below_alloc _ _
            have K5x2 := Lib.hid (show Blk X2 G5 36 #[.slice none 0 0, .slice none 0 0, .slice none 0 0] by rw [hX, hg]; exact Blk.new _ _ _)
            have HL5 := Lib.hid (show U.heap.size ≤ G5 by rw [hg]; exact HB1.out.size)
            have HB2 := Lib.hid (HB1.out.trans (hb.mono HB1.out.size))
            have RA1x2 := Lib.hid (own_below RA1x1.out hb)
            clear RA1x1
            have RS1x2 := Lib.hid (own_below RS1x1.out hb)
            clear RS1x1
            have RT1x2 := Lib.hid (own_below RT1x1.out hb)
            clear RT1x1
            clear hX hg hb HB1
            refine hK.out _ _ ?_ (fun hH2 => ?_)
            · exact SH.out _ HB2.out
            clear hK K
            try clear hH1
            try simp only [Act.put, List.setIfInBounds_toArray, List.set_cons_zero, List.set_cons_succ]
            refine wpAnyH_ready (rs := [5, 7]) (by kernel_rfl) (by simp) ?_
            refine (AllReadyH.cons (o := Oper.mk (some 28) (Op.call (Call.mk (Callee.value (Operand.func 15)) #[Operand.tmp 26, Operand.tmp 27] #[25, 36])) 36 "law.go:82" #[Edge.mk 3 Ground.data, Edge.mk 4 Ground.data, Edge.mk 2 Ground.chain] none) rfl (fun K hK => ?_) (AllReadyH.cons (o := Oper.mk (some 6) (Op.alloc 36) 0 "law.go:82" #[] none) rfl (fun K hK => ?_) AllReadyH.nil))
            · go_simp
              go_at_call 15
              (with_reducible refine (CP2.out _).mono ?_)
              rintro e9 X3 ⟨va, vs, vt, rfl, ha, hs, ht, hb⟩
              obtain ⟨A2, a2, rfl, _, _⟩ := own_slice ha
              obtain ⟨B2, b2, rfl, _, _⟩ := own_slice hs
              obtain ⟨C2, c2, rfl, _, _⟩ := own_slice ht
              have HB3 := Lib.hid (HB2.out.trans (hb.mono HB2.out.size))
              have RA2x3 := Lib.hid (own_mono ha HB2.out.size)
              have RS2x3 := Lib.hid (own_mono hs HB2.out.size)
              have RT2x3 := Lib.hid (own_mono ht HB2.out.size)
              have RA1x3 := Lib.hid (own_below RA1x2.out hb)
              clear RA1x2
              have RS1x3 := Lib.hid (own_below RS1x2.out hb)
              clear RS1x2
              have RT1x3 := Lib.hid (own_below RT1x2.out hb)
              clear RT1x2
              have K5x3 := Lib.hid (K5x2.out.below hb)
              clear K5x2
              clear ha hs ht hb HB2
              go_wp2_with fail
              refine hK.out _ _ ?_ (fun hH3 => ?_)
              · exact SH.out _ HB3.out
              clear hK K
              try clear hH2
              try simp only [Act.put, List.setIfInBounds_toArray, List.set_cons_zero, List.set_cons_succ]
              refine wpAnyH_ready (rs := [7]) (by kernel_rfl) (by simp) ?_
              refine (AllReadyH.cons (o := Oper.mk (some 6) (Op.alloc 36) 0 "law.go:82" #[] none) rfl (fun K hK => ?_) AllReadyH.nil)
              go_simp
              obtain ⟨X4, hX⟩ : ∃ X, X = X3.alloc (.cells #[.slice none 0 0, .slice none 0 0, .slice none 0 0] 36) := ⟨_, rfl⟩
              obtain ⟨G6, hg⟩ : ∃ g, g = X3.heap.size := ⟨_, rfl⟩
              rw [← hX, ← hg]
              have hb : Below X3.heap.size X3 X4 := by rw [hX]; exact below_alloc _ _
              have K6x4 := Lib.hid (show Blk X4 G6 36 #[.slice none 0 0, .slice none 0 0, .slice none 0 0] by rw [hX, hg]; exact Blk.new _ _ _)
              have HL6 := Lib.hid (show U.heap.size ≤ G6 by rw [hg]; exact HB3.out.size)
              have HB4 := Lib.hid (HB3.out.trans (hb.mono HB3.out.size))
              have HNE := Lib.hid (show G5 ≠ G6 by have := K5x3.out.lt; omega)
              have RA1x4 := Lib.hid (own_below RA1x3.out hb)
              clear RA1x3
              have RS1x4 := Lib.hid (own_below RS1x3.out hb)
              clear RS1x3
              have RT1x4 := Lib.hid (own_below RT1x3.out hb)
              clear RT1x3
              have K5x4 := Lib.hid (K5x3.out.below hb)
              clear K5x3
              have RA2x4 := Lib.hid (own_below RA2x3.out hb)
              clear RA2x3
              have RS2x4 := Lib.hid (own_below RS2x3.out hb)
              clear RS2x3
              have RT2x4 := Lib.hid (own_below RT2x3.out hb)
              clear RT2x3
              clear hX hg hb HB3
              refine hK.out _ _ ?_ (fun hH4 => ?_)
              · exact SH.out _ HB4.out
              clear hK K
              try clear hH3
              try simp only [Act.put, List.setIfInBounds_toArray, List.set_cons_zero, List.set_cons_succ]
              refine wpAnyH_ready (rs := [8]) (by kernel_rfl) (by simp) ?_
              refine (AllReadyH.cons (o := Oper.mk none (Op.store 36 (Operand.tmp 5) (Operand.tmp 25)) 0 "law.go:82" #[Edge.mk 6 Ground.data, Edge.mk 2 Ground.data, Edge.mk 5 Ground.chain, Edge.mk 0 Ground.phase, Edge.mk 1 Ground.phase, Edge.mk 2 Ground.phase, Edge.mk 3 (Ground.textOnly Departure.lateStores), Edge.mk 4 (Ground.textOnly Departure.lateStores), Edge.mk 5 (Ground.textOnly Departure.lateStoresUnsure), Edge.mk 6 Ground.phase, Edge.mk 7 Ground.phase] none) rfl (fun K hK => ?_) AllReadyH.nil)
              obtain ⟨⟨e0, e1, e2⟩, p0, p1, p2⟩ := cells3 K5x4.out
              go_simp
              obtain ⟨X5, hX⟩ : ∃ X, X = ((X4.setCell ⟨G5, 0, none⟩ (.slice A1 (marks k m).length a1)).setCell ⟨G5, 1, none⟩ (.slice B1 (attrsM k).length b1)).setCell ⟨G5, 2, none⟩ (.slice C1 (stylesM m x y).length c1) := ⟨_, rfl⟩
              rw [← hX]
              clear e0 e1 e2 p0 p1 p2
              have HB5 := Lib.hid (show Below U.heap.size U X5 by rw [hX]; exact ((HB4.out.setCell (p := ⟨G5, 0, none⟩) HL5.out _).setCell (p := ⟨G5, 1, none⟩) HL5.out _).setCell (p := ⟨G5, 2, none⟩) HL5.out _)
              have K5x5 := Lib.hid (show Blk X5 G5 36 #[.slice A1 (marks k m).length a1, .slice B1 (attrsM k).length b1, .slice C1 (stylesM m x y).length c1] by rw [hX]; exact blk_set3 K5x4.out)
              have K6x5 := K6x4
              replace K6x5 := Lib.hid (show Blk X5 G6 36 _ by rw [hX]; exact ((K6x4.out.other _ _ _ (by have := HNE.out; omega)).other _ _ _ (by have := HNE.out; omega)).other _ _ _ (by have := HNE.out; omega))
              have RA1x5 := Lib.hid (by rw [hX]; exact keep3 RA1x4.out K5x4.out (by decide) : X5.ownsRow _ _ _ _ _ _)
              have RS1x5 := Lib.hid (by rw [hX]; exact keep3 RS1x4.out K5x4.out (by decide) : X5.ownsRow _ _ _ _ _ _)
              have RT1x5 := Lib.hid (by rw [hX]; exact keep3 RT1x4.out K5x4.out (by decide) : X5.ownsRow _ _ _ _ _ _)
              have RA2x5 := Lib.hid (by rw [hX]; exact keep3 RA2x4.out K5x4.out (by decide) : X5.ownsRow _ _ _ _ _ _)
              have RS2x5 := Lib.hid (by rw [hX]; exact keep3 RS2x4.out K5x4.out (by decide) : X5.ownsRow _ _ _ _ _ _)
              have RT2x5 := Lib.hid (by rw [hX]; exact keep3 RT2x4.out K5x4.out (by decide) : X5.ownsRow _ _ _ _ _ _)
              clear hX HB4 RA1x4 RS1x4 RT1x4 K5x4 RA2x4 RS2x4 RT2x4 K6x4
              refine hK.out _ _ ?_ (fun hH5 => ?_)
              · exact SH.out _ HB5.out
              clear hK K
              try clear hH4
              try simp only [Act.put, List.setIfInBounds_toArray, List.set_cons_zero, List.set_cons_succ]
              refine wpAnyH_ready (rs := [9]) (by kernel_rfl) (by simp) ?_
              refine (AllReadyH.cons (o := Oper.mk none (Op.store 36 (Operand.tmp 6) (Operand.tmp 28)) 0 "law.go:82" #[Edge.mk 7 Ground.data, Edge.mk 5 Ground.data, Edge.mk 8 Ground.chain, Edge.mk 0 Ground.phase, Edge.mk 1 Ground.phase, Edge.mk 2 Ground.phase, Edge.mk 3 Ground.phase, Edge.mk 4 Ground.phase, Edge.mk 5 Ground.phase, Edge.mk 6 Ground.phase, Edge.mk 7 Ground.phase, Edge.mk 8 Ground.phase] none) rfl (fun K hK => ?_) AllReadyH.nil)
              obtain ⟨⟨e0, e1, e2⟩, p0, p1, p2⟩ := cells3 K6x5.out
              go_simp
              obtain ⟨X6, hX⟩ : ∃ X, X = ((X5.setCell ⟨G6, 0, none⟩ (.slice A2 (marks k2 m2).length a2)).setCell ⟨G6, 1, none⟩ (.slice B2 (attrsM k2).length b2)).setCell ⟨G6, 2, none⟩ (.slice C2 (stylesM m2 x2 y2).length c2) := ⟨_, rfl⟩
              rw [← hX]
              clear e0 e1 e2 p0 p1 p2
              have HB6 := Lib.hid (show Below U.heap.size U X6 by rw [hX]; exact ((HB5.out.setCell (p := ⟨G6, 0, none⟩) HL6.out _).setCell (p := ⟨G6, 1, none⟩) HL6.out _).setCell (p := ⟨G6, 2, none⟩) HL6.out _)
              have K6x6 := Lib.hid (show Blk X6 G6 36 #[.slice A2 (marks k2 m2).length a2, .slice B2 (attrsM k2).length b2, .slice C2 (stylesM m2 x2 y2).length c2] by rw [hX]; exact blk_set3 K6x5.out)
              have K5x6 := K5x5
              replace K5x6 := Lib.hid (show Blk X6 G5 36 _ by rw [hX]; exact ((K5x5.out.other _ _ _ (by have := HNE.out; omega)).other _ _ _ (by have := HNE.out; omega)).other _ _ _ (by have := HNE.out; omega))
              have RA1x6 := Lib.hid (by rw [hX]; exact keep3 RA1x5.out K6x5.out (by decide) : X6.ownsRow _ _ _ _ _ _)
              have RS1x6 := Lib.hid (by rw [hX]; exact keep3 RS1x5.out K6x5.out (by decide) : X6.ownsRow _ _ _ _ _ _)
              have RT1x6 := Lib.hid (by rw [hX]; exact keep3 RT1x5.out K6x5.out (by decide) : X6.ownsRow _ _ _ _ _ _)
              have RA2x6 := Lib.hid (by rw [hX]; exact keep3 RA2x5.out K6x5.out (by decide) : X6.ownsRow _ _ _ _ _ _)
              have RS2x6 := Lib.hid (by rw [hX]; exact keep3 RS2x5.out K6x5.out (by decide) : X6.ownsRow _ _ _ _ _ _)
              have RT2x6 := Lib.hid (by rw [hX]; exact keep3 RT2x5.out K6x5.out (by decide) : X6.ownsRow _ _ _ _ _ _)
              clear hX HB5 RA1x5 RS1x5 RT1x5 K5x5 RA2x5 RS2x5 RT2x5 K6x5
              refine hK.out _ _ ?_ (fun hH6 => ?_)
              · exact SH.out _ HB6.out
              clear hK K
              try clear hH5
              try simp only [Act.put, List.setIfInBounds_toArray, List.set_cons_zero, List.set_cons_succ]
              refine wpAnyH_done (by kernel_rfl) ?_ _
              go_wp2_with fail
              go_meet
              exact ⟨G5, G6, A1, B1, C1, A2, B2, C2, a1, b1, c1, a2, b2, c2, rfl, rfl, K5x6, K6x6, RA1x6, RS1x6, RT1x6, RA2x6, RS2x6, RT2x6, HB6⟩
            · go_simp
              obtain ⟨X3, hX⟩ : ∃ X, X = X2.alloc (.cells #[.slice none 0 0, .slice none 0 0, .slice none 0 0] 36) := ⟨_, rfl⟩
              obtain ⟨G6, hg⟩ : ∃ g, g = X2.heap.size := ⟨_, rfl⟩
              rw [← hX, ← hg]
              have hb : Below X2.heap.size X2 X3 := by rw [hX]; exact below_alloc _ _
              have K6x3 := Lib.hid (show Blk X3 G6 36 #[.slice none 0 0, .slice none 0 0, .slice none 0 0] by rw [hX, hg]; exact Blk.new _ _ _)
              have HL6 := Lib.hid (show U.heap.size ≤ G6 by rw [hg]; exact HB2.out.size)
              have HB3 := Lib.hid (HB2.out.trans (hb.mono HB2.out.size))
              have HNE := Lib.hid (show G5 ≠ G6 by have := K5x2.out.lt; omega)
              have RA1x3 := Lib.hid (own_below RA1x2.out hb)
              clear RA1x2
              have RS1x3 := Lib.hid (own_below RS1x2.out hb)
              clear RS1x2
              have RT1x3 := Lib.hid (own_below RT1x2.out hb)
              clear RT1x2
              have K5x3 := Lib.hid (K5x2.out.below hb)
              clear K5x2
              clear hX hg hb HB2
              refine hK.out _ _ ?_ (fun hH3 => ?_)
              · exact SH.out _ HB3.out
              clear hK K
              try clear hH2
              try simp only [Act.put, List.setIfInBounds_toArray, List.set_cons_zero, List.set_cons_succ]
              refine wpAnyH_ready (rs := [5]) (by kernel_rfl) (by simp) ?_
              refine (AllReadyH.cons (o := Oper.mk (some 28) (Op.call (Call.mk (Callee.value (Operand.func 15)) #[Operand.tmp 26, Operand.tmp 27] #[25, 36])) 36 "law.go:82" #[Edge.mk 3 Ground.data, Edge.mk 4 Ground.data, Edge.mk 2 Ground.chain] none) rfl (fun K hK => ?_) AllReadyH.nil)
              go_simp
              go_at_call 15
              (with_reducible refine (CP2.out _).mono ?_)
              rintro e9 X4 ⟨va, vs, vt, rfl, ha, hs, ht, hb⟩
              obtain ⟨A2, a2, rfl, _, _⟩ := own_slice ha
              obtain ⟨B2, b2, rfl, _, _⟩ := own_slice hs
              obtain ⟨C2, c2, rfl, _, _⟩ := own_slice ht
              have HB4 := Lib.hid (HB3.out.trans (hb.mono HB3.out.size))
              have RA2x4 := Lib.hid (own_mono ha HB3.out.size)
              have RS2x4 := Lib.hid (own_mono hs HB3.out.size)
              have RT2x4 := Lib.hid (own_mono ht HB3.out.size)
              have RA1x4 := Lib.hid (own_below RA1x3.out hb)
              clear RA1x3
              have RS1x4 := Lib.hid (own_below RS1x3.out hb)
              clear RS1x3
              have RT1x4 := Lib.hid (own_below RT1x3.out hb)
              clear RT1x3
              have K5x4 := Lib.hid (K5x3.out.below hb)
              clear K5x3
              have K6x4 := Lib.hid (K6x3.out.below hb)
              clear K6x3
              clear ha hs ht hb HB3
              go_wp2_with fail
              refine hK.out _ _ ?_ (fun hH4 => ?_)
              · exact SH.out _ HB4.out
              clear hK K
              try clear hH3
              try simp only [Act.put, List.setIfInBounds_toArray, List.set_cons_zero, List.set_cons_succ]
              refine wpAnyH_ready (rs := [8]) (by kernel_rfl) (by simp) ?_
              refine (AllReadyH.cons (o := Oper.mk none (Op.store 36 (Operand.tmp 5) (Operand.tmp 25)) 0 "law.go:82" #[Edge.mk 6 Ground.data, Edge.mk 2 Ground.data, Edge.mk 5 Ground.chain, Edge.mk 0 Ground.phase, Edge.mk 1 Ground.phase, Edge.mk 2 Ground.phase, Edge.mk 3 (Ground.textOnly Departure.lateStores), Edge.mk 4 (Ground.textOnly Departure.lateStores), Edge.mk 5 (Ground.textOnly Departure.lateStoresUnsure), Edge.mk 6 Ground.phase, Edge.mk 7 Ground.phase] none) rfl (fun K hK => ?_) AllReadyH.nil)
              obtain ⟨⟨e0, e1, e2⟩, p0, p1, p2⟩ := cells3 K5x4.out
              go_simp
              obtain ⟨X5, hX⟩ : ∃ X, X = ((X4.setCell ⟨G5, 0, none⟩ (.slice A1 (marks k m).length a1)).setCell ⟨G5, 1, none⟩ (.slice B1 (attrsM k).length b1)).setCell ⟨G5, 2, none⟩ (.slice C1 (stylesM m x y).length c1) := ⟨_, rfl⟩
              rw [← hX]
              clear e0 e1 e2 p0 p1 p2
              have HB5 := Lib.hid (show Below U.heap.size U X5 by rw [hX]; exact ((HB4.out.setCell (p := ⟨G5, 0, none⟩) HL5.out _).setCell (p := ⟨G5, 1, none⟩) HL5.out _).setCell (p := ⟨G5, 2, none⟩) HL5.out _)
              have K5x5 := Lib.hid (show Blk X5 G5 36 #[.slice A1 (marks k m).length a1, .slice B1 (attrsM k).length b1, .slice C1 (stylesM m x y).length c1] by rw [hX]; exact blk_set3 K5x4.out)
              have K6x5 := K6x4
              replace K6x5 := Lib.hid (show Blk X5 G6 36 _ by rw [hX]; exact ((K6x4.out.other _ _ _ (by have := HNE.out; omega)).other _ _ _ (by have := HNE.out; omega)).other _ _ _ (by have := HNE.out; omega))
              have RA1x5 := Lib.hid (by rw [hX]; exact keep3 RA1x4.out K5x4.out (by decide) : X5.ownsRow _ _ _ _ _ _)
              have RS1x5 := Lib.hid (by rw [hX]; exact keep3 RS1x4.out K5x4.out (by decide) : X5.ownsRow _ _ _ _ _ _)
              have RT1x5 := Lib.hid (by rw [hX]; exact keep3 RT1x4.out K5x4.out (by decide) : X5.ownsRow _ _ _ _ _ _)
              have RA2x5 := Lib.hid (by rw [hX]; exact keep3 RA2x4.out K5x4.out (by decide) : X5.ownsRow _ _ _ _ _ _)
              have RS2x5 := Lib.hid (by rw [hX]; exact keep3 RS2x4.out K5x4.out (by decide) : X5.ownsRow _ _ _ _ _ _)
              have RT2x5 := Lib.hid (by rw [hX]; exact keep3 RT2x4.out K5x4.out (by decide) : X5.ownsRow _ _ _ _ _ _)
              clear hX HB4 RA1x4 RS1x4 RT1x4 K5x4 K6x4 RA2x4 RS2x4 RT2x4
              refine hK.out _ _ ?_ (fun hH5 => ?_)
              · exact SH.out _ HB5.out
              clear hK K
              try clear hH4
              try simp only [Act.put, List.setIfInBounds_toArray, List.set_cons_zero, List.set_cons_succ]
              refine wpAnyH_ready (rs := [9]) (by kernel_rfl) (by simp) ?_
              refine (AllReadyH.cons (o := Oper.mk none (Op.store 36 (Operand.tmp 6) (Operand.tmp 28)) 0 "law.go:82" #[Edge.mk 7 Ground.data, Edge.mk 5 Ground.data, Edge.mk 8 Ground.chain, Edge.mk 0 Ground.phase, Edge.mk 1 Ground.phase, Edge.mk 2 Ground.phase, Edge.mk 3 Ground.phase, Edge.mk 4 Ground.phase, Edge.mk 5 Ground.phase, Edge.mk 6 Ground.phase, Edge.mk 7 Ground.phase, Edge.mk 8 Ground.phase] none) rfl (fun K hK => ?_) AllReadyH.nil)
              obtain ⟨⟨e0, e1, e2⟩, p0, p1, p2⟩ := cells3 K6x5.out
              go_simp
              obtain ⟨X6, hX⟩ : ∃ X, X = ((X5.setCell ⟨G6, 0, none⟩ (.slice A2 (marks k2 m2).length a2)).setCell ⟨G6, 1, none⟩ (.slice B2 (attrsM k2).length b2)).setCell ⟨G6, 2, none⟩ (.slice C2 (stylesM m2 x2 y2).length c2) := ⟨_, rfl⟩
              rw [← hX]
              clear e0 e1 e2 p0 p1 p2
              have HB6 := Lib.hid (show Below U.heap.size U X6 by rw [hX]; exact ((HB5.out.setCell (p := ⟨G6, 0, none⟩) HL6.out _).setCell (p := ⟨G6, 1, none⟩) HL6.out _).setCell (p := ⟨G6, 2, none⟩) HL6.out _)
              have K6x6 := Lib.hid (show Blk X6 G6 36 #[.slice A2 (marks k2 m2).length a2, .slice B2 (attrsM k2).length b2, .slice C2 (stylesM m2 x2 y2).length c2] by rw [hX]; exact blk_set3 K6x5.out)
              have K5x6 := K5x5
              replace K5x6 := Lib.hid (show Blk X6 G5 36 _ by rw [hX]; exact ((K5x5.out.other _ _ _ (by have := HNE.out; omega)).other _ _ _ (by have := HNE.out; omega)).other _ _ _ (by have := HNE.out; omega))
              have RA1x6 := Lib.hid (by rw [hX]; exact keep3 RA1x5.out K6x5.out (by decide) : X6.ownsRow _ _ _ _ _ _)
              have RS1x6 := Lib.hid (by rw [hX]; exact keep3 RS1x5.out K6x5.out (by decide) : X6.ownsRow _ _ _ _ _ _)
              have RT1x6 := Lib.hid (by rw [hX]; exact keep3 RT1x5.out K6x5.out (by decide) : X6.ownsRow _ _ _ _ _ _)
              have RA2x6 := Lib.hid (by rw [hX]; exact keep3 RA2x5.out K6x5.out (by decide) : X6.ownsRow _ _ _ _ _ _)
              have RS2x6 := Lib.hid (by rw [hX]; exact keep3 RS2x5.out K6x5.out (by decide) : X6.ownsRow _ _ _ _ _ _)
              have RT2x6 := Lib.hid (by rw [hX]; exact keep3 RT2x5.out K6x5.out (by decide) : X6.ownsRow _ _ _ _ _ _)
              clear hX HB5 RA1x5 RS1x5 RT1x5 K5x5 K6x5 RA2x5 RS2x5 RT2x5
              refine hK.out _ _ ?_ (fun hH6 => ?_)
              · exact SH.out _ HB6.out
              clear hK K
              try clear hH5
              try simp only [Act.put, List.setIfInBounds_toArray, List.set_cons_zero, List.set_cons_succ]
              refine wpAnyH_done (by kernel_rfl) ?_ _
              go_wp2_with fail
              go_meet
              exact ⟨G5, G6, A1, B1, C1, A2, B2, C2, a1, b1, c1, a2, b2, c2, rfl, rfl, K5x6, K6x6, RA1x6, RS1x6, RT1x6, RA2x6, RS2x6, RT2x6, HB6⟩
          · go_simp
            obtain ⟨X2, hX⟩ : ∃ X, X = X1.alloc (.cells #[.slice none 0 0, .slice none 0 0, .slice none 0 0] 36) := ⟨_, rfl⟩
            obtain ⟨G6, hg⟩ : ∃ g, g = X1.heap.size := ⟨_, rfl⟩
            rw [← hX, ← hg]
            have hb : Below X1.heap.size X1 X2 := by rw [hX]; exact below_alloc _ _
            have K6x2 := Lib.hid (show Blk X2 G6 36 #[.slice none 0 0, .slice none 0 0, .slice none 0 0] by rw [hX, hg]; exact Blk.new _ _ _)
            have HL6 := Lib.hid (show U.heap.size ≤ G6 by rw [hg]; exact HB1.out.size)
            have HB2 := Lib.hid (HB1.out.trans (hb.mono HB1.out.size))
            have RA1x2 := Lib.hid (own_below RA1x1.out hb)
            clear RA1x1
            have RS1x2 := Lib.hid (own_below RS1x1.out hb)
            clear RS1x1
            have RT1x2 := Lib.hid (own_below RT1x1.out hb)
            clear RT1x1
            clear hX hg hb HB1
            refine hK.out _ _ ?_ (fun hH2 => ?_)
            · exact SH.out _ HB2.out
            clear hK K
            try clear hH1
            try simp only [Act.put, List.setIfInBounds_toArray, List.set_cons_zero, List.set_cons_succ]
            refine wpAnyH_ready (rs := [5, 6]) (by kernel_rfl) (by simp) ?_
            refine (AllReadyH.cons (o := Oper.mk (some 28) (Op.call (Call.mk (Callee.value (Operand.func 15)) #[Operand.tmp 26, Operand.tmp 27] #[25, 36])) 36 "law.go:82" #[Edge.mk 3 Ground.data, Edge.mk 4 Ground.data, Edge.mk 2 Ground.chain] none) rfl (fun K hK => ?_) (AllReadyH.cons (o := Oper.mk (some 5) (Op.alloc 36) 0 "law.go:82" #[] none) rfl (fun K hK => ?_) AllReadyH.nil))
            · go_simp
              go_at_call 15
              (with_reducible refine (CP2.out _).mono ?_)
              rintro e9 X3 ⟨va, vs, vt, rfl, ha, hs, ht, hb⟩
              obtain ⟨A2, a2, rfl, _, _⟩ := own_slice ha
              obtain ⟨B2, b2, rfl, _, _⟩ := own_slice hs
              obtain ⟨C2, c2, rfl, _, _⟩ := own_slice ht
              have HB3 := Lib.hid (HB2.out.trans (hb.mono HB2.out.size))
              have RA2x3 := Lib.hid (own_mono ha HB2.out.size)
              have RS2x3 := Lib.hid (own_mono hs HB2.out.size)
              have RT2x3 := Lib.hid (own_mono ht HB2.out.size)
              have RA1x3 := Lib.hid (own_below RA1x2.out hb)
              clear RA1x2
              have RS1x3 := Lib.hid (own_below RS1x2.out hb)
              clear RS1x2
              have RT1x3 := Lib.hid (own_below RT1x2.out hb)
              clear RT1x2
              have K6x3 := Lib.hid (K6x2.out.below hb)
              clear K6x2
              clear ha hs ht hb HB2
              go_wp2_with fail
              refine hK.out _ _ ?_ (fun hH3 => ?_)
              · exact SH.out _ HB3.out
              clear hK K
              try clear hH2
              try simp only [Act.put, List.setIfInBounds_toArray, List.set_cons_zero, List.set_cons_succ]
              refine wpAnyH_ready (rs := [6]) (by kernel_rfl) (by simp) ?_
              refine (AllReadyH.cons (o := Oper.mk (some 5) (Op.alloc 36) 0 "law.go:82" #[] none) rfl (fun K hK => ?_) AllReadyH.nil)
              go_simp
              obtain ⟨X4, hX⟩ : ∃ X, X = X3.alloc (.cells #[.slice none 0 0, .slice none 0 0, .slice none 0 0] 36) := ⟨_, rfl⟩
              obtain ⟨G5, hg⟩ : ∃ g, g = X3.heap.size := ⟨_, rfl⟩
              rw [← hX, ← hg]
              have hb : Below X3.heap.size X3 X4 := by rw [hX]; exact below_alloc _ _
              have K5x4 := Lib.hid (show Blk X4 G5 36 #[.slice none 0 0, .slice none 0 0, .slice none 0 0] by rw [hX, hg]; exact Blk.new _ _ _)
              have HL5 := Lib.hid (show U.heap.size ≤ G5 by rw [hg]; exact HB3.out.size)
              have HB4 := Lib.hid (HB3.out.trans (hb.mono HB3.out.size))
              have HNE := Lib.hid (show G5 ≠ G6 by have := K6x3.out.lt; omega)
              have RA1x4 := Lib.hid (own_below RA1x3.out hb)
              clear RA1x3
              have RS1x4 := Lib.hid (own_below RS1x3.out hb)
              clear RS1x3
              have RT1x4 := Lib.hid (own_below RT1x3.out hb)
              clear RT1x3
              have K6x4 := Lib.hid (K6x3.out.below hb)
              clear K6x3
              have RA2x4 := Lib.hid (own_below RA2x3.out hb)
              clear RA2x3
              have RS2x4 := Lib.hid (own_below RS2x3.out hb)
              clear RS2x3
              have RT2x4 := Lib.hid (own_below RT2x3.out hb)
              clear RT2x3
              clear hX hg hb HB3
              refine hK.out _ _ ?_ (fun hH4 => ?_)
              · exact SH.out _ HB4.out
              clear hK K
              try clear hH3
              try simp only [Act.put, List.setIfInBounds_toArray, List.set_cons_zero, List.set_cons_succ]
              refine wpAnyH_ready (rs := [8]) (by kernel_rfl) (by simp) ?_
              refine (AllReadyH.cons (o := Oper.mk none (Op.store 36 (Operand.tmp 5) (Operand.tmp 25)) 0 "law.go:82" #[Edge.mk 6 Ground.data, Edge.mk 2 Ground.data, Edge.mk 5 Ground.chain, Edge.mk 0 Ground.phase, Edge.mk 1 Ground.phase, Edge.mk 2 Ground.phase, Edge.mk 3 (Ground.textOnly Departure.lateStores), Edge.mk 4 (Ground.textOnly Departure.lateStores), Edge.mk 5 (Ground.textOnly Departure.lateStoresUnsure), Edge.mk 6 Ground.phase, Edge.mk 7 Ground.phase] none) rfl (fun K hK => ?_) AllReadyH.nil)
              obtain ⟨⟨e0, e1, e2⟩, p0, p1, p2⟩ := cells3 K5x4.out
              go_simp
              obtain ⟨X5, hX⟩ : ∃ X, X = ((X4.setCell ⟨G5, 0, none⟩ (.slice A1 (marks k m).length a1)).setCell ⟨G5, 1, none⟩ (.slice B1 (attrsM k).length b1)).setCell ⟨G5, 2, none⟩ (.slice C1 (stylesM m x y).length c1) := ⟨_, rfl⟩
              rw [← hX]
              clear e0 e1 e2 p0 p1 p2
              have HB5 := Lib.hid (show Below U.heap.size U X5 by rw [hX]; exact ((HB4.out.setCell (p := ⟨G5, 0, none⟩) HL5.out _).setCell (p := ⟨G5, 1, none⟩) HL5.out _).setCell (p := ⟨G5, 2, none⟩) HL5.out _)
              have K5x5 := Lib.hid (show Blk X5 G5 36 #[.slice A1 (marks k m).length a1, .slice B1 (attrsM k).length b1, .slice C1 (stylesM m x y).length c1] by rw [hX]; exact blk_set3 K5x4.out)
              have K6x5 := K6x4
              replace K6x5 := Lib.hid (show Blk X5 G6 36 _ by rw [hX]; exact ((K6x4.out.other _ _ _ (by have := HNE.out; omega)).other _ _ _ (by have := HNE.out; omega)).other _ _ _ (by have := HNE.out; omega))
              have RA1x5 := Lib.hid (by rw [hX]; exact keep3 RA1x4.out K5x4.out (by decide) : X5.ownsRow _ _ _ _ _ _)
              have RS1x5 := Lib.hid (by rw [hX]; exact keep3 RS1x4.out K5x4.out (by decide) : X5.ownsRow _ _ _ _ _ _)
              have RT1x5 := Lib.hid (by rw [hX]; exact keep3 RT1x4.out K5x4.out (by decide) : X5.ownsRow _ _ _ _ _ _)
              have RA2x5 := Lib.hid (by rw [hX]; exact keep3 RA2x4.out K5x4.out (by decide) : X5.ownsRow _ _ _ _ _ _)
              have RS2x5 := Lib.hid (by rw [hX]; exact keep3 RS2x4.out K5x4.out (by decide) : X5.ownsRow _ _ _ _ _ _)
              have RT2x5 := Lib.hid (by rw [hX]; exact keep3 RT2x4.out K5x4.out (by decide) : X5.ownsRow _ _ _ _ _ _)
              clear hX HB4 RA1x4 RS1x4 RT1x4 K6x4 RA2x4 RS2x4 RT2x4 K5x4
              refine hK.out _ _ ?_ (fun hH5 => ?_)
              · exact SH.out _ HB5.out
              clear hK K
              try clear hH4
              try simp only [Act.put, List.setIfInBounds_toArray, List.set_cons_zero, List.set_cons_succ]
              refine wpAnyH_ready (rs := [9]) (by kernel_rfl) (by simp) ?_
              refine (AllReadyH.cons (o := Oper.mk none (Op.store 36 (Operand.tmp 6) (Operand.tmp 28)) 0 "law.go:82" #[Edge.mk 7 Ground.data, Edge.mk 5 Ground.data, Edge.mk 8 Ground.chain, Edge.mk 0 Ground.phase, Edge.mk 1 Ground.phase, Edge.mk 2 Ground.phase, Edge.mk 3 Ground.phase, Edge.mk 4 Ground.phase, Edge.mk 5 Ground.phase, Edge.mk 6 Ground.phase, Edge.mk 7 Ground.phase, Edge.mk 8 Ground.phase] none) rfl (fun K hK => ?_) AllReadyH.nil)
              obtain ⟨⟨e0, e1, e2⟩, p0, p1, p2⟩ := cells3 K6x5.out
              go_simp
              obtain ⟨X6, hX⟩ : ∃ X, X = ((X5.setCell ⟨G6, 0, none⟩ (.slice A2 (marks k2 m2).length a2)).setCell ⟨G6, 1, none⟩ (.slice B2 (attrsM k2).length b2)).setCell ⟨G6, 2, none⟩ (.slice C2 (stylesM m2 x2 y2).length c2) := ⟨_, rfl⟩
              rw [← hX]
              clear e0 e1 e2 p0 p1 p2
              have HB6 := Lib.hid (show Below U.heap.size U X6 by rw [hX]; exact ((HB5.out.setCell (p := ⟨G6, 0, none⟩) HL6.out _).setCell (p := ⟨G6, 1, none⟩) HL6.out _).setCell (p := ⟨G6, 2, none⟩) HL6.out _)
              have K6x6 := Lib.hid (show Blk X6 G6 36 #[.slice A2 (marks k2 m2).length a2, .slice B2 (attrsM k2).length b2, .slice C2 (stylesM m2 x2 y2).length c2] by rw [hX]; exact blk_set3 K6x5.out)
              have K5x6 := K5x5
              replace K5x6 := Lib.hid (show Blk X6 G5 36 _ by rw [hX]; exact ((K5x5.out.other _ _ _ (by have := HNE.out; omega)).other _ _ _ (by have := HNE.out; omega)).other _ _ _ (by have := HNE.out; omega))
              have RA1x6 := Lib.hid (by rw [hX]; exact keep3 RA1x5.out K6x5.out (by decide) : X6.ownsRow _ _ _ _ _ _)
              have RS1x6 := Lib.hid (by rw [hX]; exact keep3 RS1x5.out K6x5.out (by decide) : X6.ownsRow _ _ _ _ _ _)
              have RT1x6 := Lib.hid (by rw [hX]; exact keep3 RT1x5.out K6x5.out (by decide) : X6.ownsRow _ _ _ _ _ _)
              have RA2x6 := Lib.hid (by rw [hX]; exact keep3 RA2x5.out K6x5.out (by decide) : X6.ownsRow _ _ _ _ _ _)
              have RS2x6 := Lib.hid (by rw [hX]; exact keep3 RS2x5.out K6x5.out (by decide) : X6.ownsRow _ _ _ _ _ _)
              have RT2x6 := Lib.hid (by rw [hX]; exact keep3 RT2x5.out K6x5.out (by decide) : X6.ownsRow _ _ _ _ _ _)
              clear hX HB5 RA1x5 RS1x5 RT1x5 K6x5 RA2x5 RS2x5 RT2x5 K5x5
              refine hK.out _ _ ?_ (fun hH6 => ?_)
              · exact SH.out _ HB6.out
              clear hK K
              try clear hH5
              try simp only [Act.put, List.setIfInBounds_toArray, List.set_cons_zero, List.set_cons_succ]
              refine wpAnyH_done (by kernel_rfl) ?_ _
              go_wp2_with fail
              go_meet
              exact ⟨G5, G6, A1, B1, C1, A2, B2, C2, a1, b1, c1, a2, b2, c2, rfl, rfl, K5x6, K6x6, RA1x6, RS1x6, RT1x6, RA2x6, RS2x6, RT2x6, HB6⟩
            · go_simp
              obtain ⟨X3, hX⟩ : ∃ X, X = X2.alloc (.cells #[.slice none 0 0, .slice none 0 0, .slice none 0 0] 36) := ⟨_, rfl⟩
              obtain ⟨G5, hg⟩ : ∃ g, g = X2.heap.size := ⟨_, rfl⟩
              rw [← hX, ← hg]
              have hb : Below X2.heap.size X2 X3 := by rw [hX]; exact below_alloc _ _
              have K5x3 := Lib.hid (show Blk X3 G5 36 #[.slice none 0 0, .slice none 0 0, .slice none 0 0] by rw [hX, hg]; exact Blk.new _ _ _)
              have HL5 := Lib.hid (show U.heap.size ≤ G5 by rw [hg]; exact HB2.out.size)
              have HB3 := Lib.hid (HB2.out.trans (hb.mono HB2.out.size))
              have HNE := Lib.hid (show G5 ≠ G6 by have := K6x2.out.lt; omega)
              have RA1x3 := Lib.hid (own_below RA1x2.out hb)
              clear RA1x2
              have RS1x3 := Lib.hid (own_below RS1x2.out hb)
              clear RS1x2
              have RT1x3 := Lib.hid (own_below RT1x2.out hb)
              clear RT1x2
              have K6x3 := Lib.hid (K6x2.out.below hb)
              clear K6x2
              clear hX hg hb HB2
              refine hK.out _ _ ?_ (fun hH3 => ?_)
              · exact SH.out _ HB3.out
              clear hK K
              try clear hH2
              try simp only [Act.put, List.setIfInBounds_toArray, List.set_cons_zero, List.set_cons_succ]
              refine wpAnyH_ready (rs := [5]) (by kernel_rfl) (by simp) ?_
              refine (AllReadyH.cons (o := Oper.mk (some 28) (Op.call (Call.mk (Callee.value (Operand.func 15)) #[Operand.tmp 26, Operand.tmp 27] #[25, 36])) 36 "law.go:82" #[Edge.mk 3 Ground.data, Edge.mk 4 Ground.data, Edge.mk 2 Ground.chain] none) rfl (fun K hK => ?_) AllReadyH.nil)
              go_simp
              go_at_call 15
              (with_reducible refine (CP2.out _).mono ?_)
              rintro e9 X4 ⟨va, vs, vt, rfl, ha, hs, ht, hb⟩
              obtain ⟨A2, a2, rfl, _, _⟩ := own_slice ha
              obtain ⟨B2, b2, rfl, _, _⟩ := own_slice hs
              obtain ⟨C2, c2, rfl, _, _⟩ := own_slice ht
              have HB4 := Lib.hid (HB3.out.trans (hb.mono HB3.out.size))
              have RA2x4 := Lib.hid (own_mono ha HB3.out.size)
              have RS2x4 := Lib.hid (own_mono hs HB3.out.size)
              have RT2x4 := Lib.hid (own_mono ht HB3.out.size)
              have RA1x4 := Lib.hid (own_below RA1x3.out hb)
              clear RA1x3
              have RS1x4 := Lib.hid (own_below RS1x3.out hb)
              clear RS1x3
              have RT1x4 := Lib.hid (own_below RT1x3.out hb)
              clear RT1x3
              have K6x4 := Lib.hid (K6x3.out.below hb)
              clear K6x3
              have K5x4 := Lib.hid (K5x3.out.below hb)
              clear K5x3
              clear ha hs ht hb HB3
              go_wp2_with fail
              refine hK.out _ _ ?_ (fun hH4 => ?_)
              · exact SH.out _ HB4.out
              clear hK K
              try clear hH3
              try simp only [Act.put, List.setIfInBounds_toArray, List.set_cons_zero, List.set_cons_succ]
              refine wpAnyH_ready (rs := [8]) (by kernel_rfl) (by simp) ?_
              refine (AllReadyH.cons (o := Oper.mk none (Op.store 36 (Operand.tmp 5) (Operand.tmp 25)) 0 "law.go:82" #[Edge.mk 6 Ground.data, Edge.mk 2 Ground.data, Edge.mk 5 Ground.chain, Edge.mk 0 Ground.phase, Edge.mk 1 Ground.phase, Edge.mk 2 Ground.phase, Edge.mk 3 (Ground.textOnly Departure.lateStores), Edge.mk 4 (Ground.textOnly Departure.lateStores), Edge.mk 5 (Ground.textOnly Departure.lateStoresUnsure), Edge.mk 6 Ground.phase, Edge.mk 7 Ground.phase] none) rfl (fun K hK => ?_) AllReadyH.nil)
              obtain ⟨⟨e0, e1, e2⟩, p0, p1, p2⟩ := cells3 K5x4.out
              go_simp
              obtain ⟨X5, hX⟩ : ∃ X, X = ((X4.setCell ⟨G5, 0, none⟩ (.slice A1 (marks k m).length a1)).setCell ⟨G5, 1, none⟩ (.slice B1 (attrsM k).length b1)).setCell ⟨G5, 2, none⟩ (.slice C1 (stylesM m x y).length c1) := ⟨_, rfl⟩
              rw [← hX]
              clear e0 e1 e2 p0 p1 p2
              have HB5 := Lib.hid (show Below U.heap.size U X5 by rw [hX]; exact ((HB4.out.setCell (p := ⟨G5, 0, none⟩) HL5.out _).setCell (p := ⟨G5, 1, none⟩) HL5.out _).setCell (p := ⟨G5, 2, none⟩) HL5.out _)
              have K5x5 := Lib.hid (show Blk X5 G5 36 #[.slice A1 (marks k m).length a1, .slice B1 (attrsM k).length b1, .slice C1 (stylesM m x y).length c1] by rw [hX]; exact blk_set3 K5x4.out)
              have K6x5 := K6x4
              replace K6x5 := Lib.hid (show Blk X5 G6 36 _ by rw [hX]; exact ((K6x4.out.other _ _ _ (by have := HNE.out; omega)).other _ _ _ (by have := HNE.out; omega)).other _ _ _ (by have := HNE.out; omega))
              have RA1x5 := Lib.hid (by rw [hX]; exact keep3 RA1x4.out K5x4.out (by decide) : X5.ownsRow _ _ _ _ _ _)
              have RS1x5 := Lib.hid (by rw [hX]; exact keep3 RS1x4.out K5x4.out (by decide) : X5.ownsRow _ _ _ _ _ _)
              have RT1x5 := Lib.hid (by rw [hX]; exact keep3 RT1x4.out K5x4.out (by decide) : X5.ownsRow _ _ _ _ _ _)
              have RA2x5 := Lib.hid (by rw [hX]; exact keep3 RA2x4.out K5x4.out (by decide) : X5.ownsRow _ _ _ _ _ _)
              have RS2x5 := Lib.hid (by rw [hX]; exact keep3 RS2x4.out K5x4.out (by decide) : X5.ownsRow _ _ _ _ _ _)
              have RT2x5 := Lib.hid (by rw [hX]; exact keep3 RT2x4.out K5x4.out (by decide) : X5.ownsRow _ _ _ _ _ _)
              clear hX HB4 RA1x4 RS1x4 RT1x4 K6x4 K5x4 RA2x4 RS2x4 RT2x4
              refine hK.out _ _ ?_ (fun hH5 => ?_)
              · exact SH.out _ HB5.out
              clear hK K
              try clear hH4
              try simp only [Act.put, List.setIfInBounds_toArray, List.set_cons_zero, List.set_cons_succ]
              refine wpAnyH_ready (rs := [9]) (by kernel_rfl) (by simp) ?_
              refine (AllReadyH.cons (o := Oper.mk none (Op.store 36 (Operand.tmp 6) (Operand.tmp 28)) 0 "law.go:82" #[Edge.mk 7 Ground.data, Edge.mk 5 Ground.data, Edge.mk 8 Ground.chain, Edge.mk 0 Ground.phase, Edge.mk 1 Ground.phase, Edge.mk 2 Ground.phase, Edge.mk 3 Ground.phase, Edge.mk 4 Ground.phase, Edge.mk 5 Ground.phase, Edge.mk 6 Ground.phase, Edge.mk 7 Ground.phase, Edge.mk 8 Ground.phase] none) rfl (fun K hK => ?_) AllReadyH.nil)
              obtain ⟨⟨e0, e1, e2⟩, p0, p1, p2⟩ := cells3 K6x5.out
              go_simp
              obtain ⟨X6, hX⟩ : ∃ X, X = ((X5.setCell ⟨G6, 0, none⟩ (.slice A2 (marks k2 m2).length a2)).setCell ⟨G6, 1, none⟩ (.slice B2 (attrsM k2).length b2)).setCell ⟨G6, 2, none⟩ (.slice C2 (stylesM m2 x2 y2).length c2) := ⟨_, rfl⟩
              rw [← hX]
              clear e0 e1 e2 p0 p1 p2
              have HB6 := Lib.hid (show Below U.heap.size U X6 by rw [hX]; exact ((HB5.out.setCell (p := ⟨G6, 0, none⟩) HL6.out _).setCell (p := ⟨G6, 1, none⟩) HL6.out _).setCell (p := ⟨G6, 2, none⟩) HL6.out _)
              have K6x6 := Lib.hid (show Blk X6 G6 36 #[.slice A2 (marks k2 m2).length a2, .slice B2 (attrsM k2).length b2, .slice C2 (stylesM m2 x2 y2).length c2] by rw [hX]; exact blk_set3 K6x5.out)
              have K5x6 := K5x5
              replace K5x6 := Lib.hid (show Blk X6 G5 36 _ by rw [hX]; exact ((K5x5.out.other _ _ _ (by have := HNE.out; omega)).other _ _ _ (by have := HNE.out; omega)).other _ _ _ (by have := HNE.out; omega))
              have RA1x6 := Lib.hid (by rw [hX]; exact keep3 RA1x5.out K6x5.out (by decide) : X6.ownsRow _ _ _ _ _ _)
              have RS1x6 := Lib.hid (by rw [hX]; exact keep3 RS1x5.out K6x5.out (by decide) : X6.ownsRow _ _ _ _ _ _)
              have RT1x6 := Lib.hid (by rw [hX]; exact keep3 RT1x5.out K6x5.out (by decide) : X6.ownsRow _ _ _ _ _ _)
              have RA2x6 := Lib.hid (by rw [hX]; exact keep3 RA2x5.out K6x5.out (by decide) : X6.ownsRow _ _ _ _ _ _)
              have RS2x6 := Lib.hid (by rw [hX]; exact keep3 RS2x5.out K6x5.out (by decide) : X6.ownsRow _ _ _ _ _ _)
              have RT2x6 := Lib.hid (by rw [hX]; exact keep3 RT2x5.out K6x5.out (by decide) : X6.ownsRow _ _ _ _ _ _)
              clear hX HB5 RA1x5 RS1x5 RT1x5 K6x5 K5x5 RA2x5 RS2x5 RT2x5
              refine hK.out _ _ ?_ (fun hH6 => ?_)
              · exact SH.out _ HB6.out
              clear hK K
              try clear hH5
              try simp only [Act.put, List.setIfInBounds_toArray, List.set_cons_zero, List.set_cons_succ]
              refine wpAnyH_done (by kernel_rfl) ?_ _
              go_wp2_with fail
              go_meet
              exact ⟨G5, G6, A1, B1, C1, A2, B2, C2, a1, b1, c1, a2, b2, c2, rfl, rfl, K5x6, K6x6, RA1x6, RS1x6, RT1x6, RA2x6, RS2x6, RT2x6, HB6⟩
        · go_simp
          obtain ⟨X1, hX⟩ : ∃ X, X = X0.alloc (.cells #[.slice none 0 0, .slice none 0 0, .slice none 0 0] 36) := ⟨_, rfl⟩
          obtain ⟨G5, hg⟩ : ∃ g, g = X0.heap.size := ⟨_, rfl⟩
          rw [← hX, ← hg]
          have hb : Below X0.heap.size X0 X1 := by rw [hX]; exact below_alloc _ _
          have K5x1 := Lib.hid (show Blk X1 G5 36 #[.slice none 0 0, .slice none 0 0, .slice none 0 0] by rw [hX, hg]; exact Blk.new _ _ _)
          have HL5 := Lib.hid (show U.heap.size ≤ G5 by rw [hg]; exact HB0.out.size)
          have HB1 := Lib.hid (HB0.out.trans (hb.mono HB0.out.size))
          clear hX hg hb HB0
          refine hK.out _ _ ?_ (fun hH1 => ?_)
          · exact SH.out _ HB1.out
          clear hK K
          try clear hH0
          try simp only [Act.put, List.setIfInBounds_toArray, List.set_cons_zero, List.set_cons_succ]
          refine wpAnyH_ready (rs := [2, 7]) (by kernel_rfl) (by simp) ?_
          refine (AllReadyH.cons (o := Oper.mk (some 25) (Op.call (Call.mk (Callee.value (Operand.func 15)) #[Operand.tmp 23, Operand.tmp 24] #[25, 36])) 36 "law.go:82" #[Edge.mk 0 Ground.data, Edge.mk 1 Ground.data] none) rfl (fun K hK => ?_) (AllReadyH.cons (o := Oper.mk (some 6) (Op.alloc 36) 0 "law.go:82" #[] none) rfl (fun K hK => ?_) AllReadyH.nil))
          · go_simp
            go_at_call 15
            (with_reducible refine (CP1.out _).mono ?_)
            rintro e9 X2 ⟨va, vs, vt, rfl, ha, hs, ht, hb⟩
            obtain ⟨A1, a1, rfl, _, _⟩ := own_slice ha
            obtain ⟨B1, b1, rfl, _, _⟩ := own_slice hs
            obtain ⟨C1, c1, rfl, _, _⟩ := own_slice ht
            have HB2 := Lib.hid (HB1.out.trans (hb.mono HB1.out.size))
            have RA1x2 := Lib.hid (own_mono ha HB1.out.size)
            have RS1x2 := Lib.hid (own_mono hs HB1.out.size)
            have RT1x2 := Lib.hid (own_mono ht HB1.out.size)
            have K5x2 := Lib.hid (K5x1.out.below hb)
            clear K5x1
            clear ha hs ht hb HB1
            go_wp2_with fail
            refine hK.out _ _ ?_ (fun hH2 => ?_)
            · exact SH.out _ HB2.out
            clear hK K
            try clear hH1
            try simp only [Act.put, List.setIfInBounds_toArray, List.set_cons_zero, List.set_cons_succ]
            refine wpAnyH_ready (rs := [5, 7]) (by kernel_rfl) (by simp) ?_
            refine (AllReadyH.cons (o := Oper.mk (some 28) (Op.call (Call.mk (Callee.value (Operand.func 15)) #[Operand.tmp 26, Operand.tmp 27] #[25, 36])) 36 "law.go:82" #[Edge.mk 3 Ground.data, Edge.mk 4 Ground.data, Edge.mk 2 Ground.chain] none) rfl (fun K hK => ?_) (AllReadyH.cons (o := Oper.mk (some 6) (Op.alloc 36) 0 "law.go:82" #[] none) rfl (fun K hK => ?_) AllReadyH.nil))
            · go_simp
              go_at_call 15
              (with_reducible refine (CP2.out _).mono ?_)
              rintro e9 X3 ⟨va, vs, vt, rfl, ha, hs, ht, hb⟩
              obtain ⟨A2, a2, rfl, _, _⟩ := own_slice ha
              obtain ⟨B2, b2, rfl, _, _⟩ := own_slice hs
              obtain ⟨C2, c2, rfl, _, _⟩ := own_slice ht
              have HB3 := Lib.hid (HB2.out.trans (hb.mono HB2.out.size))
              have RA2x3 := Lib.hid (own_mono ha HB2.out.size)
              have RS2x3 := Lib.hid (own_mono hs HB2.out.size)
              have RT2x3 := Lib.hid (own_mono ht HB2.out.size)
              have K5x3 := Lib.hid (K5x2.out.below hb)
              clear K5x2
              have RA1x3 := Lib.hid (own_below RA1x2.out hb)
              clear RA1x2
              have RS1x3 := Lib.hid (own_below RS1x2.out hb)
              clear RS1x2
              have RT1x3 := Lib.hid (own_below RT1x2.out hb)
              clear RT1x2
              clear ha hs ht hb HB2
              go_wp2_with fail
              refine hK.out _ _ ?_ (fun hH3 => ?_)
              · exact SH.out _ HB3.out
              clear hK K
              try clear hH2
              try simp only [Act.put, List.setIfInBounds_toArray, List.set_cons_zero, List.set_cons_succ]
              refine wpAnyH_ready (rs := [7]) (by kernel_rfl) (by simp) ?_
              refine (AllReadyH.cons (o := Oper.mk (some 6) (Op.alloc 36) 0 "law.go:82" #[] none) rfl (fun K hK => ?_) AllReadyH.nil)
              go_simp
              obtain ⟨X4, hX⟩ : ∃ X, X = X3.alloc (.cells #[.slice none 0 0, .slice none 0 0, .slice none 0 0] 36) := ⟨_, rfl⟩
              obtain ⟨G6, hg⟩ : ∃ g, g = X3.heap.size := ⟨_, rfl⟩
              rw [← hX, ← hg]
              have hb : Below X3.heap.size X3 X4 := by rw [hX]; exact below_alloc _ _
              have K6x4 := Lib.hid (show Blk X4 G6 36 #[.slice none 0 0, .slice none 0 0, .slice none 0 0] by rw [hX, hg]; exact Blk.new _ _ _)
              have HL6 := Lib.hid (show U.heap.size ≤ G6 by rw [hg]; exact HB3.out.size)
              have HB4 := Lib.hid (HB3.out.trans (hb.mono HB3.out.size))
              have HNE := Lib.hid (show G5 ≠ G6 by have := K5x3.out.lt; omega)
              have K5x4 := Lib.hid (K5x3.out.below hb)
              clear K5x3
              have RA1x4 := Lib.hid (own_below RA1x3.out hb)
              clear RA1x3
              have RS1x4 := Lib.hid (own_below RS1x3.out hb)
              clear RS1x3
              have RT1x4 := Lib.hid (own_below RT1x3.out hb)
              clear RT1x3
              have RA2x4 := Lib.hid (own_below RA2x3.out hb)
              clear RA2x3
              have RS2x4 := Lib.hid (own_below RS2x3.out hb)
              clear RS2x3
              have RT2x4 := Lib.hid (own_below RT2x3.out hb)
              clear RT2x3
              clear hX hg hb HB3
              refine hK.out _ _ ?_ (fun hH4 => ?_)
              · exact SH.out _ HB4.out
              clear hK K
              try clear hH3
              try simp only [Act.put, List.setIfInBounds_toArray, List.set_cons_zero, List.set_cons_succ]
              refine wpAnyH_ready (rs := [8]) (by kernel_rfl) (by simp) ?_
              refine (AllReadyH.cons (o := Oper.mk none (Op.store 36 (Operand.tmp 5) (Operand.tmp 25)) 0 "law.go:82" #[Edge.mk 6 Ground.data, Edge.mk 2 Ground.data, Edge.mk 5 Ground.chain, Edge.mk 0 Ground.phase, Edge.mk 1 Ground.phase, Edge.mk 2 Ground.phase, Edge.mk 3 (Ground.textOnly Departure.lateStores), Edge.mk 4 (Ground.textOnly Departure.lateStores), Edge.mk 5 (Ground.textOnly Departure.lateStoresUnsure), Edge.mk 6 Ground.phase, Edge.mk 7 Ground.phase] none) rfl (fun K hK => ?_) AllReadyH.nil)
              obtain ⟨⟨e0, e1, e2⟩, p0, p1, p2⟩ := cells3 K5x4.out
              go_simp
              obtain ⟨X5, hX⟩ : ∃ X, X = ((X4.setCell ⟨G5, 0, none⟩ (.slice A1 (marks k m).length a1)).setCell ⟨G5, 1, none⟩ (.slice B1 (attrsM k).length b1)).setCell ⟨G5, 2, none⟩ (.slice C1 (stylesM m x y).length c1) := ⟨_, rfl⟩
              rw [← hX]
              clear e0 e1 e2 p0 p1 p2
              have HB5 := Lib.hid (show Below U.heap.size U X5 by rw [hX]; exact ((HB4.out.setCell (p := ⟨G5, 0, none⟩) HL5.out _).setCell (p := ⟨G5, 1, none⟩) HL5.out _).setCell (p := ⟨G5, 2, none⟩) HL5.out _)
              have K5x5 := Lib.hid (show Blk X5 G5 36 #[.slice A1 (marks k m).length a1, .slice B1 (attrsM k).length b1, .slice C1 (stylesM m x y).length c1] by rw [hX]; exact blk_set3 K5x4.out)
              have K6x5 := K6x4
              replace K6x5 := Lib.hid (show Blk X5 G6 36 _ by rw [hX]; exact ((K6x4.out.other _ _ _ (by have := HNE.out; omega)).other _ _ _ (by have := HNE.out; omega)).other _ _ _ (by have := HNE.out; omega))
              have RA1x5 := Lib.hid (by rw [hX]; exact keep3 RA1x4.out K5x4.out (by decide) : X5.ownsRow _ _ _ _ _ _)
              have RS1x5 := Lib.hid (by rw [hX]; exact keep3 RS1x4.out K5x4.out (by decide) : X5.ownsRow _ _ _ _ _ _)
              have RT1x5 := Lib.hid (by rw [hX]; exact keep3 RT1x4.out K5x4.out (by decide) : X5.ownsRow _ _ _ _ _ _)
              have RA2x5 := Lib.hid (by rw [hX]; exact keep3 RA2x4.out K5x4.out (by decide) : X5.ownsRow _ _ _ _ _ _)
              have RS2x5 := Lib.hid (by rw [hX]; exact keep3 RS2x4.out K5x4.out (by decide) : X5.ownsRow _ _ _ _ _ _)
              have RT2x5 := Lib.hid (by rw [hX]; exact keep3 RT2x4.out K5x4.out (by decide) : X5.ownsRow _ _ _ _ _ _)
              clear hX HB4 K5x4 RA1x4 RS1x4 RT1x4 RA2x4 RS2x4 RT2x4 K6x4
              refine hK.out _ _ ?_ (fun hH5 => ?_)
              · exact SH.out _ HB5.out
              clear hK K
              try clear hH4
              try simp only [Act.put, List.setIfInBounds_toArray, List.set_cons_zero, List.set_cons_succ]
              refine wpAnyH_ready (rs := [9]) (by kernel_rfl) (by simp) ?_
              refine (AllReadyH.cons (o := Oper.mk none (Op.store 36 (Operand.tmp 6) (Operand.tmp 28)) 0 "law.go:82" #[Edge.mk 7 Ground.data, Edge.mk 5 Ground.data, Edge.mk 8 Ground.chain, Edge.mk 0 Ground.phase, Edge.mk 1 Ground.phase, Edge.mk 2 Ground.phase, Edge.mk 3 Ground.phase, Edge.mk 4 Ground.phase, Edge.mk 5 Ground.phase, Edge.mk 6 Ground.phase, Edge.mk 7 Ground.phase, Edge.mk 8 Ground.phase] none) rfl (fun K hK => ?_) AllReadyH.nil)
              obtain ⟨⟨e0, e1, e2⟩, p0, p1, p2⟩ := cells3 K6x5.out
              go_simp
              obtain ⟨X6, hX⟩ : ∃ X, X = ((X5.setCell ⟨G6, 0, none⟩ (.slice A2 (marks k2 m2).length a2)).setCell ⟨G6, 1, none⟩ (.slice B2 (attrsM k2).length b2)).setCell ⟨G6, 2, none⟩ (.slice C2 (stylesM m2 x2 y2).length c2) := ⟨_, rfl⟩
              rw [← hX]
              clear e0 e1 e2 p0 p1 p2
              have HB6 := Lib.hid (show Below U.heap.size U X6 by rw [hX]; exact ((HB5.out.setCell (p := ⟨G6, 0, none⟩) HL6.out _).setCell (p := ⟨G6, 1, none⟩) HL6.out _).setCell (p := ⟨G6, 2, none⟩) HL6.out _)
              have K6x6 := Lib.hid (show Blk X6 G6 36 #[.slice A2 (marks k2 m2).length a2, .slice B2 (attrsM k2).length b2, .slice C2 (stylesM m2 x2 y2).length c2] by rw [hX]; exact blk_set3 K6x5.out)
              have K5x6 := K5x5
              replace K5x6 := Lib.hid (show Blk X6 G5 36 _ by rw [hX]; exact ((K5x5.out.other _ _ _ (by have := HNE.out; omega)).other _ _ _ (by have := HNE.out; omega)).other _ _ _ (by have := HNE.out; omega))
              have RA1x6 := Lib.hid (by rw [hX]; exact keep3 RA1x5.out K6x5.out (by decide) : X6.ownsRow _ _ _ _ _ _)
              have RS1x6 := Lib.hid (by rw [hX]; exact keep3 RS1x5.out K6x5.out (by decide) : X6.ownsRow _ _ _ _ _ _)
              have RT1x6 := Lib.hid (by rw [hX]; exact keep3 RT1x5.out K6x5.out (by decide) : X6.ownsRow _ _ _ _ _ _)
              have RA2x6 := Lib.hid (by rw [hX]; exact keep3 RA2x5.out K6x5.out (by decide) : X6.ownsRow _ _ _ _ _ _)
              have RS2x6 := Lib.hid (by rw [hX]; exact keep3 RS2x5.out K6x5.out (by decide) : X6.ownsRow _ _ _ _ _ _)
              have RT2x6 := Lib.hid (by rw [hX]; exact keep3 RT2x5.out K6x5.out (by decide) : X6.ownsRow _ _ _ _ _ _)
              clear hX HB5 K5x5 RA1x5 RS1x5 RT1x5 RA2x5 RS2x5 RT2x5 K6x5
              refine hK.out _ _ ?_ (fun hH6 => ?_)
              · exact SH.out _ HB6.out
              clear hK K
              try clear hH5
              try simp only [Act.put, List.setIfInBounds_toArray, List.set_cons_zero, List.set_cons_succ]
              refine wpAnyH_done (by kernel_rfl) ?_ _
              go_wp2_with fail
              go_meet
              exact ⟨G5, G6, A1, B1, C1, A2, B2, C2, a1, b1, c1, a2, b2, c2, rfl, rfl, K5x6, K6x6, RA1x6, RS1x6, RT1x6, RA2x6, RS2x6, RT2x6, HB6⟩
            · go_simp
              obtain ⟨X3, hX⟩ : ∃ X, X = X2.alloc (.cells #[.slice none 0 0, .slice none 0 0, .slice none 0 0] 36) := ⟨_, rfl⟩
              obtain ⟨G6, hg⟩ : ∃ g, g = X2.heap.size := ⟨_, rfl⟩
              rw [← hX, ← hg]
              have hb : Below X2.heap.size X2 X3 := by rw [hX]; exact below_alloc _ _
              have K6x3 := Lib.hid (show Blk X3 G6 36 #[.slice none 0 0, .slice none 0 0, .slice none 0 0] by rw [hX, hg]; exact Blk.new _ _ _)
              have HL6 := Lib.hid (show U.heap.size ≤ G6 by rw [hg]; exact HB2.out.size)
              have HB3 := Lib.hid (HB2.out.trans (hb.mono HB2.out.size))
              have HNE := Lib.hid (show G5 ≠ G6 by have := K5x2.out.lt; omega)
              have K5x3 := Lib.hid (K5x2.out.below hb)
              clear K5x2
              have RA1x3 := Lib.hid (own_below RA1x2.out hb)
              clear RA1x2
              have RS1x3 := Lib.hid (own_below RS1x2.out hb)
              clear RS1x2
              have RT1x3 := Lib.hid (own_below RT1x2.out hb)
              clear RT1x2
              clear hX hg hb HB2
              refine hK.out _ _ ?_ (fun hH3 => ?_)
              · exact SH.out _ HB3.out
              clear hK K
              try clear hH2
              try simp only [Act.put, List.setIfInBounds_toArray, List.set_cons_zero, List.set_cons_succ]
              refine wpAnyH_ready (rs := [5]) (by kernel_rfl) (by simp) ?_
              refine (AllReadyH.cons (o := Oper.mk (some 28) (Op.call (Call.mk (Callee.value (Operand.func 15)) #[Operand.tmp 26, Operand.tmp 27] #[25, 36])) 36 "law.go:82" #[Edge.mk 3 Ground.data, Edge.mk 4 Ground.data, Edge.mk 2 Ground.chain] none) rfl (fun K hK => ?_) AllReadyH.nil)
              go_simp
              go_at_call 15
              (with_reducible refine (CP2.out _).mono ?_)
              rintro e9 X4 ⟨va, vs, vt, rfl, ha, hs, ht, hb⟩
              obtain ⟨A2, a2, rfl, _, _⟩ := own_slice ha
              obtain ⟨B2, b2, rfl, _, _⟩ := own_slice hs
              obtain ⟨C2, c2, rfl, _, _⟩ := own_slice ht
              have HB4 := Lib.hid (HB3.out.trans (hb.mono HB3.out.size))
              have RA2x4 := Lib.hid (own_mono ha HB3.out.size)
              have RS2x4 := Lib.hid (own_mono hs HB3.out.size)
              have RT2x4 := Lib.hid (own_mono ht HB3.out.size)
              have K5x4 := Lib.hid (K5x3.out.below hb)
              clear K5x3
              have RA1x4 := Lib.hid (own_below RA1x3.out hb)
              clear RA1x3
              have RS1x4 := Lib.hid (own_below RS1x3.out hb)
              clear RS1x3
              have RT1x4 := Lib.hid (own_below RT1x3.out hb)
              clear RT1x3
              have K6x4 := Lib.hid (K6x3.out.below hb)
              clear K6x3
              clear ha hs ht hb HB3
              go_wp2_with fail
              refine hK.out _ _ ?_ (fun hH4 => ?_)
              · exact SH.out _ HB4.out
              clear hK K
              try clear hH3
              try simp only [Act.put, List.setIfInBounds_toArray, List.set_cons_zero, List.set_cons_succ]
              refine wpAnyH_ready (rs := [8]) (by kernel_rfl) (by simp) ?_
              refine (AllReadyH.cons (o := Oper.mk none (Op.store 36 (Operand.tmp 5) (Operand.tmp 25)) 0 "law.go:82" #[Edge.mk 6 Ground.data, Edge.mk 2 Ground.data, Edge.mk 5 Ground.chain, Edge.mk 0 Ground.phase, Edge.mk 1 Ground.phase, Edge.mk 2 Ground.phase, Edge.mk 3 (Ground.textOnly Departure.lateStores), Edge.mk 4 (Ground.textOnly Departure.lateStores), Edge.mk 5 (Ground.textOnly Departure.lateStoresUnsure), Edge.mk 6 Ground.phase, Edge.mk 7 Ground.phase] none) rfl (fun K hK => ?_) AllReadyH.nil)
              obtain ⟨⟨e0, e1, e2⟩, p0, p1, p2⟩ := cells3 K5x4.out
              go_simp
              obtain ⟨X5, hX⟩ : ∃ X, X = ((X4.setCell ⟨G5, 0, none⟩ (.slice A1 (marks k m).length a1)).setCell ⟨G5, 1, none⟩ (.slice B1 (attrsM k).length b1)).setCell ⟨G5, 2, none⟩ (.slice C1 (stylesM m x y).length c1) := ⟨_, rfl⟩
              rw [← hX]
              clear e0 e1 e2 p0 p1 p2
              have HB5 := Lib.hid (show Below U.heap.size U X5 by rw [hX]; exact ((HB4.out.setCell (p := ⟨G5, 0, none⟩) HL5.out _).setCell (p := ⟨G5, 1, none⟩) HL5.out _).setCell (p := ⟨G5, 2, none⟩) HL5.out _)
              have K5x5 := Lib.hid (show Blk X5 G5 36 #[.slice A1 (marks k m).length a1, .slice B1 (attrsM k).length b1, .slice C1 (stylesM m x y).length c1] by rw [hX]; exact blk_set3 K5x4.out)
              have K6x5 := K6x4
              replace K6x5 := Lib.hid (show Blk X5 G6 36 _ by rw [hX]; exact ((K6x4.out.other _ _ _ (by have := HNE.out; omega)).other _ _ _ (by have := HNE.out; omega)).other _ _ _ (by have := HNE.out; omega))
              have RA1x5 := Lib.hid (by rw [hX]; exact keep3 RA1x4.out K5x4.out (by decide) : X5.ownsRow _ _ _ _ _ _)
              have RS1x5 := Lib.hid (by rw [hX]; exact keep3 RS1x4.out K5x4.out (by decide) : X5.ownsRow _ _ _ _ _ _)
              have RT1x5 := Lib.hid (by rw [hX]; exact keep3 RT1x4.out K5x4.out (by decide) : X5.ownsRow _ _ _ _ _ _)
              have RA2x5 := Lib.hid (by rw [hX]; exact keep3 RA2x4.out K5x4.out (by decide) : X5.ownsRow _ _ _ _ _ _)
              have RS2x5 := Lib.hid (by rw [hX]; exact keep3 RS2x4.out K5x4.out (by decide) : X5.ownsRow _ _ _ _ _ _)
              have RT2x5 := Lib.hid (by rw [hX]; exact keep3 RT2x4.out K5x4.out (by decide) : X5.ownsRow _ _ _ _ _ _)
              clear hX HB4 K5x4 RA1x4 RS1x4 RT1x4 K6x4 RA2x4 RS2x4 RT2x4
              refine hK.out _ _ ?_ (fun hH5 => ?_)
              · exact SH.out _ HB5.out
              clear hK K
              try clear hH4
              try simp only [Act.put, List.setIfInBounds_toArray, List.set_cons_zero, List.set_cons_succ]
              refine wpAnyH_ready (rs := [9]) (by kernel_rfl) (by simp) ?_
              refine (AllReadyH.cons (o := Oper.mk none (Op.store 36 (Operand.tmp 6) (Operand.tmp 28)) 0 "law.go:82" #[Edge.mk 7 Ground.data, Edge.mk 5 Ground.data, Edge.mk 8 Ground.chain, Edge.mk 0 Ground.phase, Edge.mk 1 Ground.phase, Edge.mk 2 Ground.phase, Edge.mk 3 Ground.phase, Edge.mk 4 Ground.phase, Edge.mk 5 Ground.phase, Edge.mk 6 Ground.phase, Edge.mk 7 Ground.phase, Edge.mk 8 Ground.phase] none) rfl (fun K hK => ?_) AllReadyH.nil)
              obtain ⟨⟨e0, e1, e2⟩, p0, p1, p2⟩ := cells3 K6x5.out
              go_simp
              obtain ⟨X6, hX⟩ : ∃ X, X = ((X5.setCell ⟨G6, 0, none⟩ (.slice A2 (marks k2 m2).length a2)).setCell ⟨G6, 1, none⟩ (.slice B2 (attrsM k2).length b2)).setCell ⟨G6, 2, none⟩ (.slice C2 (stylesM m2 x2 y2).length c2) := ⟨_, rfl⟩
              rw [← hX]
              clear e0 e1 e2 p0 p1 p2
              have HB6 := Lib.hid (show Below U.heap.size U X6 by rw [hX]; exact ((HB5.out.setCell (p := ⟨G6, 0, none⟩) HL6.out _).setCell (p := ⟨G6, 1, none⟩) HL6.out _).setCell (p := ⟨G6, 2, none⟩) HL6.out _)
              have K6x6 := Lib.hid (show Blk X6 G6 36 #[.slice A2 (marks k2 m2).length a2, .slice B2 (attrsM k2).length b2, .slice C2 (stylesM m2 x2 y2).length c2] by rw [hX]; exact blk_set3 K6x5.out)
              have K5x6 := K5x5
              replace K5x6 := Lib.hid (show Blk X6 G5 36 _ by rw [hX]; exact ((K5x5.out.other _ _ _ (by have := HNE.out; omega)).other _ _ _ (by have := HNE.out; omega)).other _ _ _ (by have := HNE.out; omega))
              have RA1x6 := Lib.hid (by rw [hX]; exact keep3 RA1x5.out K6x5.out (by decide) : X6.ownsRow _ _ _ _ _ _)
              have RS1x6 := Lib.hid (by rw [hX]; exact keep3 RS1x5.out K6x5.out (by decide) : X6.ownsRow _ _ _ _ _ _)
              have RT1x6 := Lib.hid (by rw [hX]; exact keep3 RT1x5.out K6x5.out (by decide) : X6.ownsRow _ _ _ _ _ _)
              have RA2x6 := Lib.hid (by rw [hX]; exact keep3 RA2x5.out K6x5.out (by decide) : X6.ownsRow _ _ _ _ _ _)
              have RS2x6 := Lib.hid (by rw [hX]; exact keep3 RS2x5.out K6x5.out (by decide) : X6.ownsRow _ _ _ _ _ _)
              have RT2x6 := Lib.hid (by rw [hX]; exact keep3 RT2x5.out K6x5.out (by decide) : X6.ownsRow _ _ _ _ _ _)
              clear hX HB5 K5x5 RA1x5 RS1x5 RT1x5 K6x5 RA2x5 RS2x5 RT2x5
              refine hK.out _ _ ?_ (fun hH6 => ?_)
              · exact SH.out _ HB6.out
              clear hK K
              try clear hH5
              try simp only [Act.put, List.setIfInBounds_toArray, List.set_cons_zero, List.set_cons_succ]
              refine wpAnyH_done (by kernel_rfl) ?_ _
              go_wp2_with fail
              go_meet
              exact ⟨G5, G6, A1, B1, C1, A2, B2, C2, a1, b1, c1, a2, b2, c2, rfl, rfl, K5x6, K6x6, RA1x6, RS1x6, RT1x6, RA2x6, RS2x6, RT2x6, HB6⟩
          · go_simp
            obtain ⟨X2, hX⟩ : ∃ X, X = X1.alloc (.cells #[.slice none 0 0, .slice none 0 0, .slice none 0 0] 36) := ⟨_, rfl⟩
            obtain ⟨G6, hg⟩ : ∃ g, g = X1.heap.size := ⟨_, rfl⟩
            rw [← hX, ← hg]
            have hb : Below X1.heap.size X1 X2 := by rw [hX]; exact below_alloc _ _
            have K6x2 := Lib.hid (show Blk X2 G6 36 #[.slice none 0 0, .slice none 0 0, .slice none 0 0] by rw [hX, hg]; exact Blk.new _ _ _)
            have HL6 := Lib.hid (show U.heap.size ≤ G6 by rw [hg]; exact HB1.out.size)
            have HB2 := Lib.hid (HB1.out.trans (hb.mono HB1.out.size))
            have HNE := Lib.hid (show G5 ≠ G6 by have := K5x1.out.lt; omega)
            have K5x2 := Lib.hid (K5x1.out.below hb)
            clear K5x1
            clear hX hg hb HB1
            refine hK.out _ _ ?_ (fun hH2 => ?_)
            · exact SH.out _ HB2.out
            clear hK K
            try clear hH1
            try simp only [Act.put, List.setIfInBounds_toArray, List.set_cons_zero, List.set_cons_succ]
            refine wpAnyH_ready (rs := [2]) (by kernel_rfl) (by simp) ?_
            refine (AllReadyH.cons (o := Oper.mk (some 25) (Op.call (Call.mk (Callee.value (Operand.func 15)) #[Operand.tmp 23, Operand.tmp 24] #[25, 36])) 36 "law.go:82" #[Edge.mk 0 Ground.data, Edge.mk 1 Ground.data] none) rfl (fun K hK => ?_) AllReadyH.nil)
            go_simp
            go_at_call 15
            (with_reducible refine (CP1.out _).mono ?_)
            rintro e9 X3 ⟨va, vs, vt, rfl, ha, hs, ht, hb⟩
            obtain ⟨A1, a1, rfl, _, _⟩ := own_slice ha
            obtain ⟨B1, b1, rfl, _, _⟩ := own_slice hs
            obtain ⟨C1, c1, rfl, _, _⟩ := own_slice ht
            have HB3 := Lib.hid (HB2.out.trans (hb.mono HB2.out.size))
            have RA1x3 := Lib.hid (own_mono ha HB2.out.size)
            have RS1x3 := Lib.hid (own_mono hs HB2.out.size)
            have RT1x3 := Lib.hid (own_mono ht HB2.out.size)
            have K5x3 := Lib.hid (K5x2.out.below hb)
            clear K5x2
            have K6x3 := Lib.hid (K6x2.out.below hb)
            clear K6x2
            clear ha hs ht hb HB2
            go_wp2_with fail
            refine hK.out _ _ ?_ (fun hH3 => ?_)
            · exact SH.out _ HB3.out
            clear hK K
            try clear hH2
            try simp only [Act.put, List.setIfInBounds_toArray, List.set_cons_zero, List.set_cons_succ]
            refine wpAnyH_ready (rs := [5]) (by kernel_rfl) (by simp) ?_
            refine (AllReadyH.cons (o := Oper.mk (some 28) (Op.call (Call.mk (Callee.value (Operand.func 15)) #[Operand.tmp 26, Operand.tmp 27] #[25, 36])) 36 "law.go:82" #[Edge.mk 3 Ground.data, Edge.mk 4 Ground.data, Edge.mk 2 Ground.chain] none) rfl (fun K hK => ?_) AllReadyH.nil)
            go_simp
            go_at_call 15
            (with_reducible refine (CP2.out _).mono ?_)
            rintro e9 X4 ⟨va, vs, vt, rfl, ha, hs, ht, hb⟩
            obtain ⟨A2, a2, rfl, _, _⟩ := own_slice ha
            obtain ⟨B2, b2, rfl, _, _⟩ := own_slice hs
            obtain ⟨C2, c2, rfl, _, _⟩ := own_slice ht
            have HB4 := Lib.hid (HB3.out.trans (hb.mono HB3.out.size))
            have RA2x4 := Lib.hid (own_mono ha HB3.out.size)
            have RS2x4 := Lib.hid (own_mono hs HB3.out.size)
            have RT2x4 := Lib.hid (own_mono ht HB3.out.size)
            have K5x4 := Lib.hid (K5x3.out.below hb)
            clear K5x3
            have K6x4 := Lib.hid (K6x3.out.below hb)
            clear K6x3
            have RA1x4 := Lib.hid (own_below RA1x3.out hb)
            clear RA1x3
            have RS1x4 := Lib.hid (own_below RS1x3.out hb)
            clear RS1x3
            have RT1x4 := Lib.hid (own_below RT1x3.out hb)
            clear RT1x3
            clear ha hs ht hb HB3
            go_wp2_with fail
            refine hK.out _ _ ?_ (fun hH4 => ?_)
            · exact SH.out _ HB4.out
            clear hK K
            try clear hH3
            try simp only [Act.put, List.setIfInBounds_toArray, List.set_cons_zero, List.set_cons_succ]
            refine wpAnyH_ready (rs := [8]) (by kernel_rfl) (by simp) ?_
            refine (AllReadyH.cons (o := Oper.mk none (Op.store 36 (Operand.tmp 5) (Operand.tmp 25)) 0 "law.go:82" #[Edge.mk 6 Ground.data, Edge.mk 2 Ground.data, Edge.mk 5 Ground.chain, Edge.mk 0 Ground.phase, Edge.mk 1 Ground.phase, Edge.mk 2 Ground.phase, Edge.mk 3 (Ground.textOnly Departure.lateStores), Edge.mk 4 (Ground.textOnly Departure.lateStores), Edge.mk 5 (Ground.textOnly Departure.lateStoresUnsure), Edge.mk 6 Ground.phase, Edge.mk 7 Ground.phase] none) rfl (fun K hK => ?_) AllReadyH.nil)
            obtain ⟨⟨e0, e1, e2⟩, p0, p1, p2⟩ := cells3 K5x4.out
            go_simp
            obtain ⟨X5, hX⟩ : ∃ X, X = ((X4.setCell ⟨G5, 0, none⟩ (.slice A1 (marks k m).length a1)).setCell ⟨G5, 1, none⟩ (.slice B1 (attrsM k).length b1)).setCell ⟨G5, 2, none⟩ (.slice C1 (stylesM m x y).length c1) := ⟨_, rfl⟩
            rw [← hX]
            clear e0 e1 e2 p0 p1 p2
            have HB5 := Lib.hid (show Below U.heap.size U X5 by rw [hX]; exact ((HB4.out.setCell (p := ⟨G5, 0, none⟩) HL5.out _).setCell (p := ⟨G5, 1, none⟩) HL5.out _).setCell (p := ⟨G5, 2, none⟩) HL5.out _)
            have K5x5 := Lib.hid (show Blk X5 G5 36 #[.slice A1 (marks k m).length a1, .slice B1 (attrsM k).length b1, .slice C1 (stylesM m x y).length c1] by rw [hX]; exact blk_set3 K5x4.out)
            have K6x5 := K6x4
            replace K6x5 := Lib.hid (show Blk X5 G6 36 _ by rw [hX]; exact ((K6x4.out.other _ _ _ (by have := HNE.out; omega)).other _ _ _ (by have := HNE.out; omega)).other _ _ _ (by have := HNE.out; omega))
            have RA1x5 := Lib.hid (by rw [hX]; exact keep3 RA1x4.out K5x4.out (by decide) : X5.ownsRow _ _ _ _ _ _)
            have RS1x5 := Lib.hid (by rw [hX]; exact keep3 RS1x4.out K5x4.out (by decide) : X5.ownsRow _ _ _ _ _ _)
            have RT1x5 := Lib.hid (by rw [hX]; exact keep3 RT1x4.out K5x4.out (by decide) : X5.ownsRow _ _ _ _ _ _)
            have RA2x5 := Lib.hid (by rw [hX]; exact keep3 RA2x4.out K5x4.out (by decide) : X5.ownsRow _ _ _ _ _ _)
            have RS2x5 := Lib.hid (by rw [hX]; exact keep3 RS2x4.out K5x4.out (by decide) : X5.ownsRow _ _ _ _ _ _)
            have RT2x5 := Lib.hid (by rw [hX]; exact keep3 RT2x4.out K5x4.out (by decide) : X5.ownsRow _ _ _ _ _ _)
            clear hX HB4 K5x4 K6x4 RA1x4 RS1x4 RT1x4 RA2x4 RS2x4 RT2x4
            refine hK.out _ _ ?_ (fun hH5 => ?_)
            · exact SH.out _ HB5.out
            clear hK K
            try clear hH4
            try simp only [Act.put, List.setIfInBounds_toArray, List.set_cons_zero, List.set_cons_succ]
            refine wpAnyH_ready (rs := [9]) (by kernel_rfl) (by simp) ?_
            refine (AllReadyH.cons (o := Oper.mk none (Op.store 36 (Operand.tmp 6) (Operand.tmp 28)) 0 "law.go:82" #[Edge.mk 7 Ground.data, Edge.mk 5 Ground.data, Edge.mk 8 Ground.chain, Edge.mk 0 Ground.phase, Edge.mk 1 Ground.phase, Edge.mk 2 Ground.phase, Edge.mk 3 Ground.phase, Edge.mk 4 Ground.phase, Edge.mk 5 Ground.phase, Edge.mk 6 Ground.phase, Edge.mk 7 Ground.phase, Edge.mk 8 Ground.phase] none) rfl (fun K hK => ?_) AllReadyH.nil)
            obtain ⟨⟨e0, e1, e2⟩, p0, p1, p2⟩ := cells3 K6x5.out
            go_simp
            obtain ⟨X6, hX⟩ : ∃ X, X = ((X5.setCell ⟨G6, 0, none⟩ (.slice A2 (marks k2 m2).length a2)).setCell ⟨G6, 1, none⟩ (.slice B2 (attrsM k2).length b2)).setCell ⟨G6, 2, none⟩ (.slice C2 (stylesM m2 x2 y2).length c2) := ⟨_, rfl⟩
            rw [← hX]
            clear e0 e1 e2 p0 p1 p2
            have HB6 := Lib.hid (show Below U.heap.size U X6 by rw [hX]; exact ((HB5.out.setCell (p := ⟨G6, 0, none⟩) HL6.out _).setCell (p := ⟨G6, 1, none⟩) HL6.out _).setCell (p := ⟨G6, 2, none⟩) HL6.out _)
            have K6x6 := Lib.hid (show Blk X6 G6 36 #[.slice A2 (marks k2 m2).length a2, .slice B2 (attrsM k2).length b2, .slice C2 (stylesM m2 x2 y2).length c2] by rw [hX]; exact blk_set3 K6x5.out)
            have K5x6 := K5x5
            replace K5x6 := Lib.hid (show Blk X6 G5 36 _ by rw [hX]; exact ((K5x5.out.other _ _ _ (by have := HNE.out; omega)).other _ _ _ (by have := HNE.out; omega)).other _ _ _ (by have := HNE.out; omega))
            have RA1x6 := Lib.hid (by rw [hX]; exact keep3 RA1x5.out K6x5.out (by decide) : X6.ownsRow _ _ _ _ _ _)
            have RS1x6 := Lib.hid (by rw [hX]; exact keep3 RS1x5.out K6x5.out (by decide) : X6.ownsRow _ _ _ _ _ _)
            have RT1x6 := Lib.hid (by rw [hX]; exact keep3 RT1x5.out K6x5.out (by decide) : X6.ownsRow _ _ _ _ _ _)
            have RA2x6 := Lib.hid (by rw [hX]; exact keep3 RA2x5.out K6x5.out (by decide) : X6.ownsRow _ _ _ _ _ _)
            have RS2x6 := Lib.hid (by rw [hX]; exact keep3 RS2x5.out K6x5.out (by decide) : X6.ownsRow _ _ _ _ _ _)
            have RT2x6 := Lib.hid (by rw [hX]; exact keep3 RT2x5.out K6x5.out (by decide) : X6.ownsRow _ _ _ _ _ _)
            clear hX HB5 K5x5 K6x5 RA1x5 RS1x5 RT1x5 RA2x5 RS2x5 RT2x5
            refine hK.out _ _ ?_ (fun hH6 => ?_)
            · exact SH.out _ HB6.out
            clear hK K
            try clear hH5
            try simp only [Act.put, List.setIfInBounds_toArray, List.set_cons_zero, List.set_cons_succ]
            refine wpAnyH_done (by kernel_rfl) ?_ _
            go_wp2_with fail
            go_meet
            exact ⟨G5, G6, A1, B1, C1, A2, B2, C2, a1, b1, c1, a2, b2, c2, rfl, rfl, K5x6, K6x6, RA1x6, RS1x6, RT1x6, RA2x6, RS2x6, RT2x6, HB6⟩
        · go_simp
          obtain ⟨X1, hX⟩ : ∃ X, X = X0.alloc (.cells #[.slice none 0 0, .slice none 0 0, .slice none 0 0] 36) := ⟨_, rfl⟩
          obtain ⟨G6, hg⟩ : ∃ g, g = X0.heap.size := ⟨_, rfl⟩
          rw [← hX, ← hg]
          have hb : Below X0.heap.size X0 X1 := by rw [hX]; exact below_alloc _ _
          have K6x1 := Lib.hid (show Blk X1 G6 36 #[.slice none 0 0, .slice none 0 0, .slice none 0 0] by rw [hX, hg]; exact Blk.new _ _ _)
          have HL6 := Lib.hid (show U.heap.size ≤ G6 by rw [hg]; exact HB0.out.size)
          have HB1 := Lib.hid (HB0.out.trans (hb.mono HB0.out.size))
          clear hX hg hb HB0
          refine hK.out _ _ ?_ (fun hH1 => ?_)
          · exact SH.out _ HB1.out
          clear hK K
          try clear hH0
          try simp only [Act.put, List.setIfInBounds_toArray, List.set_cons_zero, List.set_cons_succ]
          refine wpAnyH_ready (rs := [2, 6]) (by kernel_rfl) (by simp) ?_
          refine (AllReadyH.cons (o := Oper.mk (some 25) (Op.call (Call.mk (Callee.value (Operand.func 15)) #[Operand.tmp 23, Operand.tmp 24] #[25, 36])) 36 "law.go:82" #[Edge.mk 0 Ground.data, Edge.mk 1 Ground.data] none) rfl (fun K hK => ?_) (AllReadyH.cons (o := Oper.mk (some 5) (Op.alloc 36) 0 "law.go:82" #[] none) rfl (fun K hK => ?_) AllReadyH.nil))
          · go_simp
            go_at_call 15
            (with_reducible refine (CP1.out _).mono ?_)
            rintro e9 X2 ⟨va, vs, vt, rfl, ha, hs, ht, hb⟩
            obtain ⟨A1, a1, rfl, _, _⟩ := own_slice ha
            obtain ⟨B1, b1, rfl, _, _⟩ := own_slice hs
            obtain ⟨C1, c1, rfl, _, _⟩ := own_slice ht
            have HB2 := Lib.hid (HB1.out.trans (hb.mono HB1.out.size))
            have RA1x2 := Lib.hid (own_mono ha HB1.out.size)
            have RS1x2 := Lib.hid (own_mono hs HB1.out.size)
            have RT1x2 := Lib.hid (own_mono ht HB1.out.size)
            have K6x2 := Lib.hid (K6x1.out.below hb)
            clear K6x1
            clear ha hs ht hb HB1
            go_wp2_with fail
            refine hK.out _ _ ?_ (fun hH2 => ?_)
            · exact SH.out _ HB2.out
            clear hK K
            try clear hH1
            try simp only [Act.put, List.setIfInBounds_toArray, List.set_cons_zero, List.set_cons_succ]
            refine wpAnyH_ready (rs := [5, 6]) (by kernel_rfl) (by simp) ?_
            refine (AllReadyH.cons (o := Oper.mk (some 28) (Op.call (Call.mk (Callee.value (Operand.func 15)) #[Operand.tmp 26, Operand.tmp 27] #[25, 36])) 36 "law.go:82" #[Edge.mk 3 Ground.data, Edge.mk 4 Ground.data, Edge.mk 2 Ground.chain] none) rfl (fun K hK => ?_) (AllReadyH.cons (o := Oper.mk (some 5) (Op.alloc 36) 0 "law.go:82" #[] none) rfl (fun K hK => ?_) AllReadyH.nil))
            · go_simp
              go_at_call 15
              (with_reducible refine (CP2.out _).mono ?_)
              rintro e9 X3 ⟨va, vs, vt, rfl, ha, hs, ht, hb⟩
              obtain ⟨A2, a2, rfl, _, _⟩ := own_slice ha
              obtain ⟨B2, b2, rfl, _, _⟩ := own_slice hs
              obtain ⟨C2, c2, rfl, _, _⟩ := own_slice ht
              have HB3 := Lib.hid (HB2.out.trans (hb.mono HB2.out.size))
              have RA2x3 := Lib.hid (own_mono ha HB2.out.size)
              have RS2x3 := Lib.hid (own_mono hs HB2.out.size)
              have RT2x3 := Lib.hid (own_mono ht HB2.out.size)
              have K6x3 := Lib.hid (K6x2.out.below hb)
              clear K6x2
              have RA1x3 := Lib.hid (own_below RA1x2.out hb)
              clear RA1x2
              have RS1x3 := Lib.hid (own_below RS1x2.out hb)
              clear RS1x2
              have RT1x3 := Lib.hid (own_below RT1x2.out hb)
              clear RT1x2
              clear ha hs ht hb HB2
              go_wp2_with fail
              refine hK.out _ _ ?_ (fun hH3 => ?_)
              · exact SH.out _ HB3.out
              clear hK K
              try clear hH2
              try simp only [Act.put, List.setIfInBounds_toArray, List.set_cons_zero, List.set_cons_succ]
              refine wpAnyH_ready (rs := [6]) (by kernel_rfl) (by simp) ?_
              refine (AllReadyH.cons (o := Oper.mk (some 5) (Op.alloc 36) 0 "law.go:82" #[] none) rfl (fun K hK => ?_) AllReadyH.nil)
              go_simp
              obtain ⟨X4, hX⟩ : ∃ X, X = X3.alloc (.cells #[.slice none 0 0, .slice none 0 0, .slice none 0 0] 36) := ⟨_, rfl⟩
              obtain ⟨G5, hg⟩ : ∃ g, g = X3.heap.size := ⟨_, rfl⟩
              rw [← hX, ← hg]
              have hb : Below X3.heap.size X3 X4 := by rw [hX]; exact below_alloc _ _
              have K5x4 := Lib.hid (show Blk X4 G5 36 #[.slice none 0 0, .slice none 0 0, .slice none 0 0] by rw [hX, hg]; exact Blk.new _ _ _)
              have HL5 := Lib.hid (show U.heap.size ≤ G5 by rw [hg]; exact HB3.out.size)
              have HB4 := Lib.hid (HB3.out.trans (hb.mono HB3.out.size))
              have HNE := Lib.hid (show G5 ≠ G6 by have := K6x3.out.lt; omega)
              have K6x4 := Lib.hid (K6x3.out.below hb)
              clear K6x3
              have RA1x4 := Lib.hid (own_below RA1x3.out hb)
              clear RA1x3
              have RS1x4 := Lib.hid (own_below RS1x3.out hb)
              clear RS1x3
              have RT1x4 := Lib.hid (own_below RT1x3.out hb)
              clear RT1x3
              have RA2x4 := Lib.hid (own_below RA2x3.out hb)
              clear RA2x3
              have RS2x4 := Lib.hid (own_below RS2x3.out hb)
              clear RS2x3
              have RT2x4 := Lib.hid (own_below RT2x3.out hb)
              clear RT2x3
              clear hX hg hb HB3
              refine hK.out _ _ ?_ (fun hH4 => ?_)
              · exact SH.out _ HB4.out
              clear hK K
              try clear hH3
              try simp only [Act.put, List.setIfInBounds_toArray, List.set_cons_zero, List.set_cons_succ]
              refine wpAnyH_ready (rs := [8]) (by kernel_rfl) (by simp) ?_
              refine (AllReadyH.cons (o := Oper.mk none (Op.store 36 (Operand.tmp 5) (Operand.tmp 25)) 0 "law.go:82" #[Edge.mk 6 Ground.data, Edge.mk 2 Ground.data, Edge.mk 5 Ground.chain, Edge.mk 0 Ground.phase, Edge.mk 1 Ground.phase, Edge.mk 2 Ground.phase, Edge.mk 3 (Ground.textOnly Departure.lateStores), Edge.mk 4 (Ground.textOnly Departure.lateStores), Edge.mk 5 (Ground.textOnly Departure.lateStoresUnsure), Edge.mk 6 Ground.phase, Edge.mk 7 Ground.phase] none) rfl (fun K hK => ?_) AllReadyH.nil)
              obtain ⟨⟨e0, e1, e2⟩, p0, p1, p2⟩ := cells3 K5x4.out
              go_simp
              obtain ⟨X5, hX⟩ : ∃ X, X = ((X4.setCell ⟨G5, 0, none⟩ (.slice A1 (marks k m).length a1)).setCell ⟨G5, 1, none⟩ (.slice B1 (attrsM k).length b1)).setCell ⟨G5, 2, none⟩ (.slice C1 (stylesM m x y).length c1) := ⟨_, rfl⟩
              rw [← hX]
              clear e0 e1 e2 p0 p1 p2
              have HB5 := Lib.hid (show Below U.heap.size U X5 by rw [hX]; exact ((HB4.out.setCell (p := ⟨G5, 0, none⟩) HL5.out _).setCell (p := ⟨G5, 1, none⟩) HL5.out _).setCell (p := ⟨G5, 2, none⟩) HL5.out _)
              have K5x5 := Lib.hid (show Blk X5 G5 36 #[.slice A1 (marks k m).length a1, .slice B1 (attrsM k).length b1, .slice C1 (stylesM m x y).length c1] by rw [hX]; exact blk_set3 K5x4.out)
              have K6x5 := K6x4
              replace K6x5 := Lib.hid (show Blk X5 G6 36 _ by rw [hX]; exact ((K6x4.out.other _ _ _ (by have := HNE.out; omega)).other _ _ _ (by have := HNE.out; omega)).other _ _ _ (by have := HNE.out; omega))
              have RA1x5 := Lib.hid (by rw [hX]; exact keep3 RA1x4.out K5x4.out (by decide) : X5.ownsRow _ _ _ _ _ _)
              have RS1x5 := Lib.hid (by rw [hX]; exact keep3 RS1x4.out K5x4.out (by decide) : X5.ownsRow _ _ _ _ _ _)
              have RT1x5 := Lib.hid (by rw [hX]; exact keep3 RT1x4.out K5x4.out (by decide) : X5.ownsRow _ _ _ _ _ _)
              have RA2x5 := Lib.hid (by rw [hX]; exact keep3 RA2x4.out K5x4.out (by decide) : X5.ownsRow _ _ _ _ _ _)
              have RS2x5 := Lib.hid (by rw [hX]; exact keep3 RS2x4.out K5x4.out (by decide) : X5.ownsRow _ _ _ _ _ _)
              have RT2x5 := Lib.hid (by rw [hX]; exact keep3 RT2x4.out K5x4.out (by decide) : X5.ownsRow _ _ _ _ _ _)
              clear hX HB4 K6x4 RA1x4 RS1x4 RT1x4 RA2x4 RS2x4 RT2x4 K5x4
              refine hK.out _ _ ?_ (fun hH5 => ?_)
              · exact SH.out _ HB5.out
              clear hK K
              try clear hH4
              try simp only [Act.put, List.setIfInBounds_toArray, List.set_cons_zero, List.set_cons_succ]
              refine wpAnyH_ready (rs := [9]) (by kernel_rfl) (by simp) ?_
              refine (AllReadyH.cons (o := Oper.mk none (Op.store 36 (Operand.tmp 6) (Operand.tmp 28)) 0 "law.go:82" #[Edge.mk 7 Ground.data, Edge.mk 5 Ground.data, Edge.mk 8 Ground.chain, Edge.mk 0 Ground.phase, Edge.mk 1 Ground.phase, Edge.mk 2 Ground.phase, Edge.mk 3 Ground.phase, Edge.mk 4 Ground.phase, Edge.mk 5 Ground.phase, Edge.mk 6 Ground.phase, Edge.mk 7 Ground.phase, Edge.mk 8 Ground.phase] none) rfl (fun K hK => ?_) AllReadyH.nil)
              obtain ⟨⟨e0, e1, e2⟩, p0, p1, p2⟩ := cells3 K6x5.out
              go_simp
              obtain ⟨X6, hX⟩ : ∃ X, X = ((X5.setCell ⟨G6, 0, none⟩ (.slice A2 (marks k2 m2).length a2)).setCell ⟨G6, 1, none⟩ (.slice B2 (attrsM k2).length b2)).setCell ⟨G6, 2, none⟩ (.slice C2 (stylesM m2 x2 y2).length c2) := ⟨_, rfl⟩
              rw [← hX]
              clear e0 e1 e2 p0 p1 p2
              have HB6 := Lib.hid (show Below U.heap.size U X6 by rw [hX]; exact ((HB5.out.setCell (p := ⟨G6, 0, none⟩) HL6.out _).setCell (p := ⟨G6, 1, none⟩) HL6.out _).setCell (p := ⟨G6, 2, none⟩) HL6.out _)
              have K6x6 := Lib.hid (show Blk X6 G6 36 #[.slice A2 (marks k2 m2).length a2, .slice B2 (attrsM k2).length b2, .slice C2 (stylesM m2 x2 y2).length c2] by rw [hX]; exact blk_set3 K6x5.out)
              have K5x6 := K5x5
              replace K5x6 := Lib.hid (show Blk X6 G5 36 _ by rw [hX]; exact ((K5x5.out.other _ _ _ (by have := HNE.out; omega)).other _ _ _ (by have := HNE.out; omega)).other _ _ _ (by have := HNE.out; omega))
              have RA1x6 := Lib.hid (by rw [hX]; exact keep3 RA1x5.out K6x5.out (by decide) : X6.ownsRow _ _ _ _ _ _)
              have RS1x6 := Lib.hid (by rw [hX]; exact keep3 RS1x5.out K6x5.out (by decide) : X6.ownsRow _ _ _ _ _ _)
              have RT1x6 := Lib.hid (by rw [hX]; exact keep3 RT1x5.out K6x5.out (by decide) : X6.ownsRow _ _ _ _ _ _)
              have RA2x6 := Lib.hid (by rw [hX]; exact keep3 RA2x5.out K6x5.out (by decide) : X6.ownsRow _ _ _ _ _ _)
              have RS2x6 := Lib.hid (by rw [hX]; exact keep3 RS2x5.out K6x5.out (by decide) : X6.ownsRow _ _ _ _ _ _)
              have RT2x6 := Lib.hid (by rw [hX]; exact keep3 RT2x5.out K6x5.out (by decide) : X6.ownsRow _ _ _ _ _ _)
              clear hX HB5 K6x5 RA1x5 RS1x5 RT1x5 RA2x5 RS2x5 RT2x5 K5x5
              refine hK.out _ _ ?_ (fun hH6 => ?_)
              · exact SH.out _ HB6.out
              clear hK K
              try clear hH5
              try simp only [Act.put, List.setIfInBounds_toArray, List.set_cons_zero, List.set_cons_succ]
              refine wpAnyH_done (by kernel_rfl) ?_ _
              go_wp2_with fail
              go_meet
              exact ⟨G5, G6, A1, B1, C1, A2, B2, C2, a1, b1, c1, a2, b2, c2, rfl, rfl, K5x6, K6x6, RA1x6, RS1x6, RT1x6, RA2x6, RS2x6, RT2x6, HB6⟩
            · go_simp
              obtain ⟨X3, hX⟩ : ∃ X, X = X2.alloc (.cells #[.slice none 0 0, .slice none 0 0, .slice none 0 0] 36) := ⟨_, rfl⟩
              obtain ⟨G5, hg⟩ : ∃ g, g = X2.heap.size := ⟨_, rfl⟩
              rw [← hX, ← hg]
              have hb : Below X2.heap.size X2 X3 := by rw [hX]; exact below_alloc _ _
              have K5x3 := Lib.hid (show Blk X3 G5 36 #[.slice none 0 0, .slice none 0 0, .slice none 0 0] by rw [hX, hg]; exact Blk.new _ _ _)
              have HL5 := Lib.hid (show U.heap.size ≤ G5 by rw [hg]; exact HB2.out.size)
              have HB3 := Lib.hid (HB2.out.trans (hb.mono HB2.out.size))
              have HNE := Lib.hid (show G5 ≠ G6 by have := K6x2.out.lt; omega)
              have K6x3 := Lib.hid (K6x2.out.below hb)
              clear K6x2
              have RA1x3 := Lib.hid (own_below RA1x2.out hb)
              clear RA1x2
              have RS1x3 := Lib.hid (own_below RS1x2.out hb)
              clear RS1x2
              have RT1x3 := Lib.hid (own_below RT1x2.out hb)
              clear RT1x2
              clear hX hg hb HB2
              refine hK.out _ _ ?_ (fun hH3 => ?_)
              · exact SH.out _ HB3.out
              clear hK K
              try clear hH2
              try simp only [Act.put, List.setIfInBounds_toArray, List.set_cons_zero, List.set_cons_succ]
              refine wpAnyH_ready (rs := [5]) (by kernel_rfl) (by simp) ?_
              refine (AllReadyH.cons (o := Oper.mk (some 28) (Op.call (Call.mk (Callee.value (Operand.func 15)) #[Operand.tmp 26, Operand.tmp 27] #[25, 36])) 36 "law.go:82" #[Edge.mk 3 Ground.data, Edge.mk 4 Ground.data, Edge.mk 2 Ground.chain] none) rfl (fun K hK => ?_) AllReadyH.nil)
              go_simp
              go_at_call 15
              (with_reducible refine (CP2.out _).mono ?_)
              rintro e9 X4 ⟨va, vs, vt, rfl, ha, hs, ht, hb⟩
              obtain ⟨A2, a2, rfl, _, _⟩ := own_slice ha
              obtain ⟨B2, b2, rfl, _, _⟩ := own_slice hs
              obtain ⟨C2, c2, rfl, _, _⟩ := own_slice ht
              have HB4 := Lib.hid (HB3.out.trans (hb.mono HB3.out.size))
              have RA2x4 := Lib.hid (own_mono ha HB3.out.size)
              have RS2x4 := Lib.hid (own_mono hs HB3.out.size)
              have RT2x4 := Lib.hid (own_mono ht HB3.out.size)
              have K6x4 := Lib.hid (K6x3.out.below hb)
              clear K6x3
              have RA1x4 := Lib.hid (own_below RA1x3.out hb)
              clear RA1x3
              have RS1x4 := Lib.hid (own_below RS1x3.out hb)
              clear RS1x3
              have RT1x4 := Lib.hid (own_below RT1x3.out hb)
              clear RT1x3
              have K5x4 := Lib.hid (K5x3.out.below hb)
              clear K5x3
              clear ha hs ht hb HB3
              go_wp2_with fail
              refine hK.out _ _ ?_ (fun hH4 => ?_)
              · exact SH.out _ HB4.out
              clear hK K
              try clear hH3
              try simp only [Act.put, List.setIfInBounds_toArray, List.set_cons_zero, List.set_cons_succ]
              refine wpAnyH_ready (rs := [8]) (by kernel_rfl) (by simp) ?_
              refine (AllReadyH.cons (o := Oper.mk none (Op.store 36 (Operand.tmp 5) (Operand.tmp 25)) 0 "law.go:82" #[Edge.mk 6 Ground.data, Edge.mk 2 Ground.data, Edge.mk 5 Ground.chain, Edge.mk 0 Ground.phase, Edge.mk 1 Ground.phase, Edge.mk 2 Ground.phase, Edge.mk 3 (Ground.textOnly Departure.lateStores), Edge.mk 4 (Ground.textOnly Departure.lateStores), Edge.mk 5 (Ground.textOnly Departure.lateStoresUnsure), Edge.mk 6 Ground.phase, Edge.mk 7 Ground.phase] none) rfl (fun K hK => ?_) AllReadyH.nil)
              obtain ⟨⟨e0, e1, e2⟩, p0, p1, p2⟩ := cells3 K5x4.out
              go_simp
              obtain ⟨X5, hX⟩ : ∃ X, X = ((X4.setCell ⟨G5, 0, none⟩ (.slice A1 (marks k m).length a1)).setCell ⟨G5, 1, none⟩ (.slice B1 (attrsM k).length b1)).setCell ⟨G5, 2, none⟩ (.slice C1 (stylesM m x y).length c1) := ⟨_, rfl⟩
              rw [← hX]
              clear e0 e1 e2 p0 p1 p2
              have HB5 := Lib.hid (show Below U.heap.size U X5 by rw [hX]; exact ((HB4.out.setCell (p := ⟨G5, 0, none⟩) HL5.out _).setCell (p := ⟨G5, 1, none⟩) HL5.out _).setCell (p := ⟨G5, 2, none⟩) HL5.out _)
              have K5x5 := Lib.hid (show Blk X5 G5 36 #[.slice A1 (marks k m).length a1, .slice B1 (attrsM k).length b1, .slice C1 (stylesM m x y).length c1] by rw [hX]; exact blk_set3 K5x4.out)
              have K6x5 := K6x4
              replace K6x5 := Lib.hid (show Blk X5 G6 36 _ by rw [hX]; exact ((K6x4.out.other _ _ _ (by have := HNE.out; omega)).other _ _ _ (by have := HNE.out; omega)).other _ _ _ (by have := HNE.out; omega))
              have RA1x5 := Lib.hid (by rw [hX]; exact keep3 RA1x4.out K5x4.out (by decide) : X5.ownsRow _ _ _ _ _ _)
              have RS1x5 := Lib.hid (by rw [hX]; exact keep3 RS1x4.out K5x4.out (by decide) : X5.ownsRow _ _ _ _ _ _)
              have RT1x5 := Lib.hid (by rw [hX]; exact keep3 RT1x4.out K5x4.out (by decide) : X5.ownsRow _ _ _ _ _ _)
              have RA2x5 := Lib.hid (by rw [hX]; exact keep3 RA2x4.out K5x4.out (by decide) : X5.ownsRow _ _ _ _ _ _)
              have RS2x5 := Lib.hid (by rw [hX]; exact keep3 RS2x4.out K5x4.out (by decide) : X5.ownsRow _ _ _ _ _ _)
              have RT2x5 := Lib.hid (by rw [hX]; exact keep3 RT2x4.out K5x4.out (by decide) : X5.ownsRow _ _ _ _ _ _)
              clear hX HB4 K6x4 RA1x4 RS1x4 RT1x4 K5x4 RA2x4 RS2x4 RT2x4
              refine hK.out _ _ ?_ (fun hH5 => ?_)
              · exact SH.out _ HB5.out
              clear hK K
              try clear hH4
              try simp only [Act.put, List.setIfInBounds_toArray, List.set_cons_zero, List.set_cons_succ]
              refine wpAnyH_ready (rs := [9]) (by kernel_rfl) (by simp) ?_
              refine (AllReadyH.cons (o := Oper.mk none (Op.store 36 (Operand.tmp 6) (Operand.tmp 28)) 0 "law.go:82" #[Edge.mk 7 Ground.data, Edge.mk 5 Ground.data, Edge.mk 8 Ground.chain, Edge.mk 0 Ground.phase, Edge.mk 1 Ground.phase, Edge.mk 2 Ground.phase, Edge.mk 3 Ground.phase, Edge.mk 4 Ground.phase, Edge.mk 5 Ground.phase, Edge.mk 6 Ground.phase, Edge.mk 7 Ground.phase, Edge.mk 8 Ground.phase] none) rfl (fun K hK => ?_) AllReadyH.nil)
              obtain ⟨⟨e0, e1, e2⟩, p0, p1, p2⟩ := cells3 K6x5.out
              go_simp
              obtain ⟨X6, hX⟩ : ∃ X, X = ((X5.setCell ⟨G6, 0, none⟩ (.slice A2 (marks k2 m2).length a2)).setCell ⟨G6, 1, none⟩ (.slice B2 (attrsM k2).length b2)).setCell ⟨G6, 2, none⟩ (.slice C2 (stylesM m2 x2 y2).length c2) := ⟨_, rfl⟩
              rw [← hX]
              clear e0 e1 e2 p0 p1 p2
              have HB6 := Lib.hid (show Below U.heap.size U X6 by rw [hX]; exact ((HB5.out.setCell (p := ⟨G6, 0, none⟩) HL6.out _).setCell (p := ⟨G6, 1, none⟩) HL6.out _).setCell (p := ⟨G6, 2, none⟩) HL6.out _)
              have K6x6 := Lib.hid (show Blk X6 G6 36 #[.slice A2 (marks k2 m2).length a2, .slice B2 (attrsM k2).length b2, .slice C2 (stylesM m2 x2 y2).length c2] by rw [hX]; exact blk_set3 K6x5.out)
              have K5x6 := K5x5
              replace K5x6 := Lib.hid (show Blk X6 G5 36 _ by rw [hX]; exact ((K5x5.out.other _ _ _ (by have := HNE.out; omega)).other _ _ _ (by have := HNE.out; omega)).other _ _ _ (by have := HNE.out; omega))
              have RA1x6 := Lib.hid (by rw [hX]; exact keep3 RA1x5.out K6x5.out (by decide) : X6.ownsRow _ _ _ _ _ _)
              have RS1x6 := Lib.hid (by rw [hX]; exact keep3 RS1x5.out K6x5.out (by decide) : X6.ownsRow _ _ _ _ _ _)
              have RT1x6 := Lib.hid (by rw [hX]; exact keep3 RT1x5.out K6x5.out (by decide) : X6.ownsRow _ _ _ _ _ _)
              have RA2x6 := Lib.hid (by rw [hX]; exact keep3 RA2x5.out K6x5.out (by decide) : X6.ownsRow _ _ _ _ _ _)
              have RS2x6 := Lib.hid (by rw [hX]; exact keep3 RS2x5.out K6x5.out (by decide) : X6.ownsRow _ _ _ _ _ _)
              have RT2x6 := Lib.hid (by rw [hX]; exact keep3 RT2x5.out K6x5.out (by decide) : X6.ownsRow _ _ _ _ _ _)
              clear hX HB5 K6x5 RA1x5 RS1x5 RT1x5 K5x5 RA2x5 RS2x5 RT2x5
              refine hK.out _ _ ?_ (fun hH6 => ?_)
              · exact SH.out _ HB6.out
              clear hK K
              try clear hH5
              try simp only [Act.put, List.setIfInBounds_toArray, List.set_cons_zero, List.set_cons_succ]
              refine wpAnyH_done (by kernel_rfl) ?_ _
              go_wp2_with fail
              go_meet
              exact ⟨G5, G6, A1, B1, C1, A2, B2, C2, a1, b1, c1, a2, b2, c2, rfl, rfl, K5x6, K6x6, RA1x6, RS1x6, RT1x6, RA2x6, RS2x6, RT2x6, HB6⟩
          · go_simp
            obtain ⟨X2, hX⟩ : ∃ X, X = X1.alloc (.cells #[.slice none 0 0, .slice none 0 0, .slice none 0 0] 36) := ⟨_, rfl⟩
            obtain ⟨G5, hg⟩ : ∃ g, g = X1.heap.size := ⟨_, rfl⟩
            rw [← hX, ← hg]
            have hb : Below X1.heap.size X1 X2 := by rw [hX]; exact below_alloc _ _
            have K5x2 := Lib.hid (show Blk X2 G5 36 #[.slice none 0 0, .slice none 0 0, .slice none 0 0] by rw [hX, hg]; exact Blk.new _ _ _)
            have HL5 := Lib.hid (show U.heap.size ≤ G5 by rw [hg]; exact HB1.out.size)
            have HB2 := Lib.hid (HB1.out.trans (hb.mono HB1.out.size))
            have HNE := Lib.hid (show G5 ≠ G6 by have := K6x1.out.lt; omega)
            have K6x2 := Lib.hid (K6x1.out.below hb)
            clear K6x1
            clear hX hg hb HB1
            refine hK.out _ _ ?_ (fun hH2 => ?_)
            · exact SH.out _ HB2.out
            clear hK K
            try clear hH1
            try simp only [Act.put, List.setIfInBounds_toArray, List.set_cons_zero, List.set_cons_succ]
            refine wpAnyH_ready (rs := [2]) (by kernel_rfl) (by simp) ?_
            refine (AllReadyH.cons (o := Oper.mk (some 25) (Op.call (Call.mk (Callee.value (Operand.func 15)) #[Operand.tmp 23, Operand.tmp 24] #[25, 36])) 36 "law.go:82" #[Edge.mk 0 Ground.data, Edge.mk 1 Ground.data] none) rfl (fun K hK => ?_) AllReadyH.nil)
            go_simp
            go_at_call 15
            (with_reducible refine (CP1.out _).mono ?_)
            rintro e9 X3 ⟨va, vs, vt, rfl, ha, hs, ht, hb⟩
            obtain ⟨A1, a1, rfl, _, _⟩ := own_slice ha
            obtain ⟨B1, b1, rfl, _, _⟩ := own_slice hs
            obtain ⟨C1, c1, rfl, _, _⟩ := own_slice ht
            have HB3 := Lib.hid (HB2.out.trans (hb.mono HB2.out.size))
            have RA1x3 := Lib.hid (own_mono ha HB2.out.size)
            have RS1x3 := Lib.hid (own_mono hs HB2.out.size)
            have RT1x3 := Lib.hid (own_mono ht HB2.out.size)
            have K6x3 := Lib.hid (K6x2.out.below hb)
            clear K6x2
            have K5x3 := Lib.hid (K5x2.out.below hb)
            clear K5x2
            clear ha hs ht hb HB2
            go_wp2_with fail
            refine hK.out _ _ ?_ (fun hH3 => ?_)
            · exact SH.out _ HB3.out
            clear hK K
            try clear hH2
            try simp only [Act.put, List.setIfInBounds_toArray, List.set_cons_zero, List.set_cons_succ]
            refine wpAnyH_ready (rs := [5]) (by kernel_rfl) (by simp) ?_
            refine (AllReadyH.cons (o := Oper.mk (some 28) (Op.call (Call.mk (Callee.value (Operand.func 15)) #[Operand.tmp 26, Operand.tmp 27] #[25, 36])) 36 "law.go:82" #[Edge.mk 3 Ground.data, Edge.mk 4 Ground.data, Edge.mk 2 Ground.chain] none) rfl (fun K hK => ?_) AllReadyH.nil)
            go_simp
            go_at_call 15
            (with_reducible refine (CP2.out _).mono ?_)
            rintro e9 X4 ⟨va, vs, vt, rfl, ha, hs, ht, hb⟩
            obtain ⟨A2, a2, rfl, _, _⟩ := own_slice ha
            obtain ⟨B2, b2, rfl, _, _⟩ := own_slice hs
            obtain ⟨C2, c2, rfl, _, _⟩ := own_slice ht
            have HB4 := Lib.hid (HB3.out.trans (hb.mono HB3.out.size))
            have RA2x4 := Lib.hid (own_mono ha HB3.out.size)
            have RS2x4 := Lib.hid (own_mono hs HB3.out.size)
            have RT2x4 := Lib.hid (own_mono ht HB3.out.size)
            have K6x4 := Lib.hid (K6x3.out.below hb)
            clear K6x3
            have K5x4 := Lib.hid (K5x3.out.below hb)
            clear K5x3
            have RA1x4 := Lib.hid (own_below RA1x3.out hb)
            clear RA1x3
            have RS1x4 := Lib.hid (own_below RS1x3.out hb)
            clear RS1x3
            have RT1x4 := Lib.hid (own_below RT1x3.out hb)
            clear RT1x3
            clear ha hs ht hb HB3
            go_wp2_with fail
            refine hK.out _ _ ?_ (fun hH4 => ?_)
            · exact SH.out _ HB4.out
            clear hK K
            try clear hH3
            try simp only [Act.put, List.setIfInBounds_toArray, List.set_cons_zero, List.set_cons_succ]
            refine wpAnyH_ready (rs := [8]) (by kernel_rfl) (by simp) ?_
            refine (AllReadyH.cons (o := Oper.mk none (Op.store 36 (Operand.tmp 5) (Operand.tmp 25)) 0 "law.go:82" #[Edge.mk 6 Ground.data, Edge.mk 2 Ground.data, Edge.mk 5 Ground.chain, Edge.mk 0 Ground.phase, Edge.mk 1 Ground.phase, Edge.mk 2 Ground.phase, Edge.mk 3 (Ground.textOnly Departure.lateStores), Edge.mk 4 (Ground.textOnly Departure.lateStores), Edge.mk 5 (Ground.textOnly Departure.lateStoresUnsure), Edge.mk 6 Ground.phase, Edge.mk 7 Ground.phase] none) rfl (fun K hK => ?_) AllReadyH.nil)
            obtain ⟨⟨e0, e1, e2⟩, p0, p1, p2⟩ := cells3 K5x4.out
            go_simp
            obtain ⟨X5, hX⟩ : ∃ X, X = ((X4.setCell ⟨G5, 0, none⟩ (.slice A1 (marks k m).length a1)).setCell ⟨G5, 1, none⟩ (.slice B1 (attrsM k).length b1)).setCell ⟨G5, 2, none⟩ (.slice C1 (stylesM m x y).length c1) := ⟨_, rfl⟩
            rw [← hX]
            clear e0 e1 e2 p0 p1 p2
            have HB5 := Lib.hid (show Below U.heap.size U X5 by rw [hX]; exact ((HB4.out.setCell (p := ⟨G5, 0, none⟩) HL5.out _).setCell (p := ⟨G5, 1, none⟩) HL5.out _).setCell (p := ⟨G5, 2, none⟩) HL5.out _)
            have K5x5 := Lib.hid (show Blk X5 G5 36 #[.slice A1 (marks k m).length a1, .slice B1 (attrsM k).length b1, .slice C1 (stylesM m x y).length c1] by rw [hX]; exact blk_set3 K5x4.out)
            have K6x5 := K6x4
            replace K6x5 := Lib.hid (show Blk X5 G6 36 _ by rw [hX]; exact ((K6x4.out.other _ _ _ (by have := HNE.out; omega)).other _ _ _ (by have := HNE.out; omega)).other _ _ _ (by have := HNE.out; omega))
            have RA1x5 := Lib.hid (by rw [hX]; exact keep3 RA1x4.out K5x4.out (by decide) : X5.ownsRow _ _ _ _ _ _)
            have RS1x5 := Lib.hid (by rw [hX]; exact keep3 RS1x4.out K5x4.out (by decide) : X5.ownsRow _ _ _ _ _ _)
            have RT1x5 := Lib.hid (by rw [hX]; exact keep3 RT1x4.out K5x4.out (by decide) : X5.ownsRow _ _ _ _ _ _)
            have RA2x5 := Lib.hid (by rw [hX]; exact keep3 RA2x4.out K5x4.out (by decide) : X5.ownsRow _ _ _ _ _ _)
            have RS2x5 := Lib.hid (by rw [hX]; exact keep3 RS2x4.out K5x4.out (by decide) : X5.ownsRow _ _ _ _ _ _)
            have RT2x5 := Lib.hid (by rw [hX]; exact keep3 RT2x4.out K5x4.out (by decide) : X5.ownsRow _ _ _ _ _ _)
            clear hX HB4 K6x4 K5x4 RA1x4 RS1x4 RT1x4 RA2x4 RS2x4 RT2x4
            refine hK.out _ _ ?_ (fun hH5 => ?_)
            · exact SH.out _ HB5.out
            clear hK K
            try clear hH4
            try simp only [Act.put, List.setIfInBounds_toArray, List.set_cons_zero, List.set_cons_succ]
            refine wpAnyH_ready (rs := [9]) (by kernel_rfl) (by simp) ?_
            refine (AllReadyH.cons (o := Oper.mk none (Op.store 36 (Operand.tmp 6) (Operand.tmp 28)) 0 "law.go:82" #[Edge.mk 7 Ground.data, Edge.mk 5 Ground.data, Edge.mk 8 Ground.chain, Edge.mk 0 Ground.phase, Edge.mk 1 Ground.phase, Edge.mk 2 Ground.phase, Edge.mk 3 Ground.phase, Edge.mk 4 Ground.phase, Edge.mk 5 Ground.phase, Edge.mk 6 Ground.phase, Edge.mk 7 Ground.phase, Edge.mk 8 Ground.phase] none) rfl (fun K hK => ?_) AllReadyH.nil)
            obtain ⟨⟨e0, e1, e2⟩, p0, p1, p2⟩ := cells3 K6x5.out
            go_simp
            obtain ⟨X6, hX⟩ : ∃ X, X = ((X5.setCell ⟨G6, 0, none⟩ (.slice A2 (marks k2 m2).length a2)).setCell ⟨G6, 1, none⟩ (.slice B2 (attrsM k2).length b2)).setCell ⟨G6, 2, none⟩ (.slice C2 (stylesM m2 x2 y2).length c2) := ⟨_, rfl⟩
            rw [← hX]
            clear e0 e1 e2 p0 p1 p2
            have HB6 := Lib.hid (show Below U.heap.size U X6 by rw [hX]; exact ((HB5.out.setCell (p := ⟨G6, 0, none⟩) HL6.out _).setCell (p := ⟨G6, 1, none⟩) HL6.out _).setCell (p := ⟨G6, 2, none⟩) HL6.out _)
            have K6x6 := Lib.hid (show Blk X6 G6 36 #[.slice A2 (marks k2 m2).length a2, .slice B2 (attrsM k2).length b2, .slice C2 (stylesM m2 x2 y2).length c2] by rw [hX]; exact blk_set3 K6x5.out)
            have K5x6 := K5x5
            replace K5x6 := Lib.hid (show Blk X6 G5 36 _ by rw [hX]; exact ((K5x5.out.other _ _ _ (by have := HNE.out; omega)).other _ _ _ (by have := HNE.out; omega)).other _ _ _ (by have := HNE.out; omega))
            have RA1x6 := Lib.hid (by rw [hX]; exact keep3 RA1x5.out K6x5.out (by decide) : X6.ownsRow _ _ _ _ _ _)
            have RS1x6 := Lib.hid (by rw [hX]; exact keep3 RS1x5.out K6x5.out (by decide) : X6.ownsRow _ _ _ _ _ _)
            have RT1x6 := Lib.hid (by rw [hX]; exact keep3 RT1x5.out K6x5.out (by decide) : X6.ownsRow _ _ _ _ _ _)
            have RA2x6 := Lib.hid (by rw [hX]; exact keep3 RA2x5.out K6x5.out (by decide) : X6.ownsRow _ _ _ _ _ _)
            have RS2x6 := Lib.hid (by rw [hX]; exact keep3 RS2x5.out K6x5.out (by decide) : X6.ownsRow _ _ _ _ _ _)
            have RT2x6 := Lib.hid (by rw [hX]; exact keep3 RT2x5.out K6x5.out (by decide) : X6.ownsRow _ _ _ _ _ _)
            clear hX HB5 K6x5 K5x5 RA1x5 RS1x5 RT1x5 RA2x5 RS2x5 RT2x5
            refine hK.out _ _ ?_ (fun hH6 => ?_)
            · exact SH.out _ HB6.out
            clear hK K
            try clear hH5
            try simp only [Act.put, List.setIfInBounds_toArray, List.set_cons_zero, List.set_cons_succ]
            refine wpAnyH_done (by kernel_rfl) ?_ _
            go_wp2_with fail
            go_meet
            exact ⟨G5, G6, A1, B1, C1, A2, B2, C2, a1, b1, c1, a2, b2, c2, rfl, rfl, K5x6, K6x6, RA1x6, RS1x6, RT1x6, RA2x6, RS2x6, RT2x6, HB6⟩
      case' rest =>
        obtain ⟨G5, G6, A1, B1, C1, A2, B2, C2, a1, b1, c1, a2, b2, c2, rfl, rfl, K5, K6, RA1, RS1, RT1, RA2, RS2, RT2, HBx⟩ := hcut
        rename World => wq
        obtain ⟨r1, hr1⟩ : ∃ r, r = decide (marks k m = marks k2 m2) := ⟨_, rfl⟩
        obtain ⟨r2, hr2⟩ : ∃ r, r = decide (attrsM k = attrsM k2) := ⟨_, rfl⟩
        obtain ⟨r3, hr3⟩ : ∃ r, r = decide (stylesM m x y = stylesM m2 x2 y2) := ⟨_, rfl⟩
        have hal := alike HQ1.out.symm HQ2.out.symm
        rw [← hr1, ← hr2, ← hr3] at hal
        have HE : Hid (∀ W, (Op.equalIn 10000 23 (.agg #[.int .i64 k, .int .i64 m, .int .i64 x, .int .i64 y]) (.agg #[.int .i64 k2, .int .i64 m2, .int .i64 x2, .int .i64 y2])).run Try.prog W = .ok (r1 && r2 && r3) W) := Lib.hid (fun W => by rw [hal]; exact look_eq 9998 k m x y k2 m2 x2 y2 W)
        have CS1 : Hid (∀ W, Below wq.heap.size wq W → Calls Try.prog 12 #[.slice A1 (marks k m).length a1, .slice A2 (marks k2 m2).length a2] W fun e w' => e = .returned (.bool r1) ∧ ∃ q, w' = W.drewN q) := Lib.hid (fun W hW => by
          rw [hr1]
          exact same_any A1 A2 _ a1 _ a2 (marks k m) (marks k2 m2) W rfl rfl (by have := marks_len k m; unfold maxLen; omega) (by have := marks_len k2 m2; unfold maxLen; omega) ((At.own RA1.out).below hW) ((At.own RA2.out).below hW))
        have CS2 : Hid (∀ W, Below wq.heap.size wq W → Calls Try.prog 16 #[.slice B1 (attrsM k).length b1, .slice B2 (attrsM k2).length b2] W fun e w' => e = .returned (.bool r2) ∧ Below W.heap.size W w') := Lib.hid (fun W hW => by
          have h9 := same_mapS B1 B2 _ b1 _ b2 (attrsM k) (attrsM k2) W rfl rfl (by have := attrs_len k; omega) (by have := attrs_len k2; omega) (own_addr RS1.out) (own_addr RS2.out) ((At.own RS1.out).below hW) ((At.own RS2.out).below hW)
          rw [attrs_of, attrs_of] at h9
          rw [hr2]
          exact h9)
        have CS3 : Hid (∀ W, Below wq.heap.size wq W → Calls Try.prog 17 #[.slice C1 (stylesM m x y).length c1, .slice C2 (stylesM m2 x2 y2).length c2] W fun e w' => e = .returned (.bool r3) ∧ Below W.heap.size W w') := Lib.hid (fun W hW => by
          have h9 := same_map C1 C2 _ c1 _ c2 (stylesM m x y) (stylesM m2 x2 y2) W rfl rfl (by have := styles_len m x y; omega) (by have := styles_len m2 x2 y2; omega) (own_addr RT1.out) (own_addr RT2.out) ((At.own RT1.out).below hW) ((At.own RT2.out).below hW)
          rw [styles_of, styles_of] at h9
          rw [hr3]
          exact h9)
        clear hr1 hr2 hr3 hal RA1 RS1 RT1 RA2 RS2 RT2 CP1 CP2 CD CM1 CM2
        obtain ⟨⟨e0, e1, e2⟩, p0, p1, p2⟩ := cells3 K5.out
        obtain ⟨⟨d0, d1, d2⟩, o0, o1, o2⟩ := cells3 K6.out
        clear p0 p1 p2 o0 o1 o2 e1 e2 d1 d2
        go_wp2_with fail
        (with_reducible refine (CS1.out _ (Below.refl _ _)).mono ?_)
        rintro e9 w4 ⟨rfl, q9, rfl⟩
        obtain ⟨W4, hW4⟩ : ∃ W, W = wq.drewN q9 := ⟨_, rfl⟩
        have HB4 := Lib.hid (show Below wq.heap.size wq W4 by rw [hW4]; exact below_heap (Below.refl _ _) rfl rfl rfl rfl)
        rw [← hW4]
        clear hW4 e0 d0 CS1
        cases r1
        · obtain ⟨f0, f1, f2, f3, g0, g1, g2, g3, _⟩ := SH.out _ (HBx.out.trans (HB4.out.mono HBx.out.size))
          have hE : ∀ W, (Op.equalIn 10000 23 (.agg #[.int .i64 k, .int .i64 m, .int .i64 x, .int .i64 y]) (.agg #[.int .i64 k2, .int .i64 m2, .int .i64 x2, .int .i64 y2])).run Try.prog W = .ok false W := fun W => HE.out W
          go_wp2_with fail
          (try go_wp2)
          go_ret
          exact ⟨rfl, HBU.out.trans ((HBx.out.trans (HB4.out.mono HBx.out.size)).mono HBU.out.size)⟩
        · obtain ⟨⟨e0, e1, e2⟩, p0, p1, p2⟩ := cells3 (K5.out.below HB4.out)
          obtain ⟨⟨d0, d1, d2⟩, o0, o1, o2⟩ := cells3 (K6.out.below HB4.out)
          clear p0 p1 p2 o0 o1 o2 e0 e2 d0 d2
          go_wp2_with fail
          (with_reducible refine (CS2.out _ HB4.out).mono ?_)
          rintro e9 w5 ⟨rfl, hb5⟩
          have HB5 := Lib.hid (HB4.out.trans (hb5.mono HB4.out.size))
          clear hb5 e1 d1
          cases r2
          · obtain ⟨f0, f1, f2, f3, g0, g1, g2, g3, _⟩ := SH.out _ (HBx.out.trans (HB5.out.mono HBx.out.size))
            have hE : ∀ W, (Op.equalIn 10000 23 (.agg #[.int .i64 k, .int .i64 m, .int .i64 x, .int .i64 y]) (.agg #[.int .i64 k2, .int .i64 m2, .int .i64 x2, .int .i64 y2])).run Try.prog W = .ok false W := fun W => HE.out W
            go_wp2_with fail
            (try go_wp2)
            go_ret
            exact ⟨rfl, HBU.out.trans ((HBx.out.trans (HB5.out.mono HBx.out.size)).mono HBU.out.size)⟩
          · obtain ⟨⟨e0, e1, e2⟩, p0, p1, p2⟩ := cells3 (K5.out.below HB5.out)
            obtain ⟨⟨d0, d1, d2⟩, o0, o1, o2⟩ := cells3 (K6.out.below HB5.out)
            clear p0 p1 p2 o0 o1 o2 e0 e1 d0 d1
            go_wp2_with fail
            (with_reducible refine (CS3.out _ HB5.out).mono ?_)
            rintro e9 w6 ⟨rfl, hb6⟩
            have HB6 := Lib.hid (HB5.out.trans (hb6.mono HB5.out.size))
            clear hb6 e2 d2
            cases r3
            · obtain ⟨f0, f1, f2, f3, g0, g1, g2, g3, _⟩ := SH.out _ (HBx.out.trans (HB6.out.mono HBx.out.size))
              have hE : ∀ W, (Op.equalIn 10000 23 (.agg #[.int .i64 k, .int .i64 m, .int .i64 x, .int .i64 y]) (.agg #[.int .i64 k2, .int .i64 m2, .int .i64 x2, .int .i64 y2])).run Try.prog W = .ok false W := fun W => HE.out W
              go_wp2_with fail
              (try go_wp2)
              go_ret
              exact ⟨rfl, HBU.out.trans ((HBx.out.trans (HB6.out.mono HBx.out.size)).mono HBU.out.size)⟩
            · obtain ⟨f0, f1, f2, f3, g0, g1, g2, g3, _⟩ := SH.out _ (HBx.out.trans (HB6.out.mono HBx.out.size))
              have hE : ∀ W, (Op.equalIn 10000 23 (.agg #[.int .i64 k, .int .i64 m, .int .i64 x, .int .i64 y]) (.agg #[.int .i64 k2, .int .i64 m2, .int .i64 x2, .int .i64 y2])).run Try.prog W = .ok true W := fun W => HE.out W
              go_wp2_with fail
              (try go_wp2)
              go_ret
              exact ⟨rfl, HBU.out.trans ((HBx.out.trans (HB6.out.mono HBx.out.size)).mono HBU.out.size)⟩
end Ds
end Go.Proofs.Ytcboeehmhpkodaa
