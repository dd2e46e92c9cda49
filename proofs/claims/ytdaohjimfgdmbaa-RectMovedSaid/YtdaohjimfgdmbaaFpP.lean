/- The walks of FlipPlans and FlipLeft. -/
import Derived.Test.YtdaohjimfgdmbaaFpA
namespace Go.Proofs.Ytdaohjimfgdmbaa
open Go.RowKit Go.Maps Sn M
set_option maxHeartbeats 4000000 in
set_option maxRecDepth 100000 in
theorem flipLeft_any (w : World) (v0 v1 v2 : Value) (h0 : ShArg w v0) (h1 : IntArg w v1) (h2 : IntArg w v2) :
    Calls Try.prog 8 #[v0, v1, v2] w fun e w' => e = .returned (.bool true) ∧ Below w.heap.size w w' := by
  obtain ⟨id, dx, dy, rfl⟩ := h0
  obtain ⟨t, rfl, ht⟩ := h1
  obtain ⟨dur, rfl, hd⟩ := h2
  obtain ⟨p, q, r, hv⟩ : ∃ p q r : Int, leftV id dx dy t dur = .agg #[.int .i64 p, .int .i64 q, .int .i64 r] := by
    unfold leftV
    split
    · exact ⟨_, _, _, rfl⟩
    · split <;> exact ⟨_, _, _, rfl⟩
  have CA := Lib.hid (fun W => left_any id dx dy t dur W ht hd)
  have CB := Lib.hid (fun W => rleft_any id dx dy t dur W ht hd)
  rw [hv] at CA CB
  obtain ⟨g, hg⟩ : ∃ g, g = w.heap.size := ⟨_, rfl⟩
  obtain ⟨W0, hW0⟩ : ∃ W, W = w.alloc (.cells #[.int .i64 id, .int .i64 dx, .int .i64 dy] 60) := ⟨_, rfl⟩
  have B0 : Blk W0 g 60 #[.int .i64 id, .int .i64 dx, .int .i64 dy] := by rw [hW0, hg]; exact Blk.new w _ _
  have HB0 := Lib.hid (show Below w.heap.size w W0 by rw [hW0]; exact below_alloc w _)
  have HK := Lib.hid B0
  have HW0 := Lib.hid hW0
  have HG := Lib.hid hg
  clear hv ht hd hW0 hg B0
  go_enter Try.func8, Try.ntmps8
  go_wp2_with fail
  rw [← HW0.out, ← HG.out]
  refine (awake23_any _).mono ?_
  rintro e w1 ⟨rfl, hb1⟩
  have K1 := HK.out.below hb1
  have c0 := K1.cell 0 (v := .int .i64 id) rfl
  have c1 := K1.cell 1 (v := .int .i64 dx) rfl
  have c2 := K1.cell 2 (v := .int .i64 dy) rfl
  have hl := K1.lt
  have HB1 := Lib.hid (HB0.out.trans (hb1.mono HB0.out.size))
  clear K1 hb1
  go_upto_region 3 with fail
  go_region_held3 (fun w' => w'.cell? ⟨g, 0, none⟩ = some (.int .i64 id) ∧ w'.cell? ⟨g, 1, none⟩ = some (.int .i64 dx) ∧ w'.cell? ⟨g, 2, none⟩ = some (.int .i64 dy) ∧ Below w1.heap.size w1 w') (first | (refine ⟨?_, ?_, ?_, ?_⟩ <;> first | with_reducible assumption | exact Below_drew (Below.refl _ _) | go_keep) | go_keep)
    (first
      | (go_at_call 28; (with_reducible refine (CA.out _).mono ?_); rintro e9 w5 ⟨rfl, hb9⟩; go_split_ands; have B9 : Below w1.heap.size w1 w5 := below_joinS (by first | with_reducible assumption | exact Below_drew (Below.refl _ _)) hb9; have q0 := (B9.cell (p := ⟨g, 0, none⟩) hl).trans c0; have q1 := (B9.cell (p := ⟨g, 1, none⟩) hl).trans c1; have q2 := (B9.cell (p := ⟨g, 2, none⟩) hl).trans c2)
      | (go_at_call 29; (with_reducible refine (CB.out _).mono ?_); rintro e9 w6 ⟨rfl, hb9⟩; go_split_ands; have B9 : Below w1.heap.size w1 w6 := below_joinS (by first | with_reducible assumption | exact Below_drew (Below.refl _ _)) hb9; have q0 := (B9.cell (p := ⟨g, 0, none⟩) hl).trans c0; have q1 := (B9.cell (p := ⟨g, 1, none⟩) hl).trans c1; have q2 := (B9.cell (p := ⟨g, 2, none⟩) hl).trans c2))
  all_goals
    go_split_ands
    have HB9 : Hid (Below w1.heap.size w1 w6) := by assumption
    go_wp2
    go_ret
    exact ⟨rfl, HB1.out.trans (HB9.out.mono HB1.out.size)⟩
/-- what a statement over two lists keeps. -/
structure Rs2 (w W : World) (A1 A2 A3 A4 : Option Addr) (X Y : List En) : Prop where
  a1 : At W A1 (ecs X)
  a2 : At W A2 (ecs X)
  a3 : At W A3 (ecs Y)
  a4 : At W A4 (ecs Y)
  k : Below w.heap.size w W
theorem Rs2.below {w W W' : World} {A1 A2 A3 A4 : Option Addr} {X Y : List En} (h : Rs2 w W A1 A2 A3 A4 X Y) (hb : Below W.heap.size W W') : Rs2 w W' A1 A2 A3 A4 X Y := ⟨h.a1.below hb, h.a2.below hb, h.a3.below hb, h.a4.below hb, h.k.trans (hb.mono h.k.size)⟩
theorem At.takeI {w : World} {A : Option Addr} {I : List Int} (h : At w A (I.flatMap zc)) (k : Nat) : At w A ((I.take k).flatMap zc) := by
  have e : ∀ (I : List Int) (k : Nat), (I.take k).flatMap zc = (I.flatMap zc).take k := by
    intro I
    induction I with
    | nil => intro k; simp
    | cons x I ih => intro k; cases k with
      | zero => simp
      | succ k => simp [zc, ih]
  rw [e]
  exact h.take k
theorem getD_take (I : List Int) (m k : Nat) (h : k < m) : (I.take m).getD k 0 = I.getD k 0 := by simp [h]
set_option maxHeartbeats 8000000 in
set_option maxRecDepth 100000 in
theorem flipPlans_any (w : World) (v0 : Value) (h0 : BothArg w v0) :
    Calls Try.prog 5 #[v0] w fun e w' => e = .returned (.bool true) ∧ Below w.heap.size w w' := by
  obtain ⟨A, n, c, L, B, m, d, M, C, k, e, I, rfl, ⟨hn, hnc, hcm, hat, _, _⟩, ⟨hm, hmd, hdm, hbt, _, _⟩, ⟨hk, hke, hem, hct, hok, _⟩⟩ := h0
  obtain ⟨X, hX⟩ : ∃ X, X = L.take 20 := ⟨_, rfl⟩
  obtain ⟨Y, hY⟩ : ∃ Y, Y = M.take 20 := ⟨_, rfl⟩
  obtain ⟨J, hJ⟩ : ∃ J, J = I.take 20 := ⟨_, rfl⟩
  have hXl : X.length ≤ 20 := by rw [hX, List.length_take]; omega
  have hYl : Y.length ≤ 20 := by rw [hY, List.length_take]; omega
  obtain ⟨z, hz⟩ : ∃ z, z = min k 20 := ⟨_, rfl⟩
  have hJl : z = J.length := by rw [hJ, List.length_take, hz]; omega
  have hz20 : z ≤ 20 := by omega
  have hzk : z ≤ k := by omega
  obtain ⟨g, hg⟩ : ∃ g, g = w.heap.size := ⟨_, rfl⟩
  obtain ⟨W0, hW0⟩ : ∃ W, W = w.alloc (.cells #[.slice A n c, .slice B m d, .slice C k e] 51) := ⟨_, rfl⟩
  have hB0 : Below w.heap.size w W0 := by rw [hW0]; exact below_alloc w _
  have COwn1 : Hid (∀ W, Below W0.heap.size W0 W → Calls Try.prog 11 #[.slice A n c, .int .i64 20] W fun e w' => ∃ v u, e = .returned (.tuple #[v, u]) ∧ w'.ownsRow W.heap.size 74 5 v X.length (ecs X) ∧ w'.ownsRow W.heap.size 44 5 u X.length (ecs X) ∧ Below W.heap.size W w') := fun W hW => by
    have := own13_any A n c 20 L W hn (by omega) (by omega) ((hat.below hB0).below hW)
    rw [← hX] at this
    exact this
  have COwn2 : Hid (∀ W, Below W0.heap.size W0 W → Calls Try.prog 11 #[.slice B m d, .int .i64 20] W fun e w' => ∃ v u, e = .returned (.tuple #[v, u]) ∧ w'.ownsRow W.heap.size 74 5 v Y.length (ecs Y) ∧ w'.ownsRow W.heap.size 44 5 u Y.length (ecs Y) ∧ Below W.heap.size W w') := fun W hW => by
    have := own13_any B m d 20 M W hm (by omega) (by omega) ((hbt.below hB0).below hW)
    rw [← hY] at this
    exact this
  have HJ3 := Lib.hid (fun W (hW : Below W0.heap.size W0 W) => show At W C (J.flatMap zc) by rw [hJ]; exact ((hct.takeI 20).below hB0).below hW)
  have HOK : Hid (∀ x ∈ J, OkI x) := fun x hx => hok x (by rw [hJ] at hx; exact List.mem_of_mem_take hx)
  have HJL := Lib.hid hJl
  have K0 : Blk W0 g 51 #[.slice A n c, .slice B m d, .slice C k e] := by rw [hW0, hg]; exact Blk.new w _ _
  have HK0 := Lib.hid K0
  have HB0 := Lib.hid hB0
  have HW0 := Lib.hid hW0
  have HG := Lib.hid hg
  have HXL := Lib.hid hXl
  have HYL := Lib.hid hYl
  have HZ := Lib.hid hz
  clear hz
  have hmin : IntKind.i64.wrap (0 : Int) = 0 := rfl
  unfold maxLen at hcm hdm hem
  clear hX hY hJ hn hm hk hat hbt hct hok hJl K0 hB0 hW0 hg hmin hXl hYl
  obtain ⟨qx, hqx⟩ : ∃ q, q = X.length := ⟨_, rfl⟩
  obtain ⟨qy, hqy⟩ : ∃ q, q = Y.length := ⟨_, rfl⟩
  have HQX := Lib.hid hqx
  have HQY := Lib.hid hqy
  rw [← hqx] at COwn1 HXL
  rw [← hqy] at COwn2 HYL
  clear hqx hqy
  go_enter Try.func5, Try.ntmps5
  go_wp2_with fail
  rw [← HW0.out, ← HG.out]
  refine (awake23_any _).mono ?_
  rintro e w1 ⟨rfl, hb1⟩
  have K1 := Lib.hid (HK0.out.below hb1)
  have HB1 := Lib.hid hb1
  have c0 := K1.out.cell 0 (v := .slice A n c) rfl
  clear hb1
  go_wp2_with fail
  refine (COwn1.out _ HB1.out).mono ?_
  rintro e w2 ⟨v1, u1, rfl, hv1, hu1, hb2⟩
  obtain ⟨A1, c1, rfl, _, _, hat1⟩ := at_of_own' hv1
  obtain ⟨A2, c2, rfl, _, _, hat2⟩ := at_of_own' hu1
  have HN1 := Lib.hid (own_addr hv1)
  have HAT := Lib.hid (And.intro hat1 hat2)
  have K2 := Lib.hid (K1.out.below hb2)
  have HB2 := Lib.hid (HB1.out.trans (hb2.mono HB1.out.size))
  have c1' := K2.out.cell 1 (v := .slice B m d) rfl
  clear hv1 hu1 hb2 hat1 hat2 c0 K1 HB1
  go_wp2_with fail
  refine (COwn2.out _ HB2.out).mono ?_
  rintro e w3 ⟨v3, u3, rfl, hv3, hu3, hb3⟩
  obtain ⟨A3, c3, rfl, _, _, hat3⟩ := at_of_own' hv3
  obtain ⟨A4, c4, rfl, _, _, hat4⟩ := at_of_own' hu3
  have HN3 := Lib.hid (own_addr hv3)
  have HR := Lib.hid (show Rs2 w w3 A1 A2 A3 A4 X Y from ⟨HAT.out.1.below hb3, HAT.out.2.below hb3, hat3, hat4, HB0.out.trans ((HB2.out.trans (hb3.mono HB2.out.size)).mono HB0.out.size)⟩)
  have HJA := Lib.hid (HJ3.out _ (HB2.out.trans (hb3.mono HB2.out.size)))
  have c2' := (K2.out.below hb3).cell 2 (v := .slice C k e) rfl
  clear hv3 hu3 hb3 hat3 hat4 c1' K2 HB2 HAT
  have hzi : min (k : Int) 20 = (z : Int) := by have := HZ.out; omega
  have hze : z ≤ e := by omega
  have CP := Lib.hid (plan_any A1 A3 C qx c1 qy c3 z e X Y J w3 HQX.out HQY.out HJL.out (by have := HXL.out; omega) (by have := HYL.out; omega) (by omega) HN1.out HN3.out HR.out.a1 HR.out.a3 HJA.out HOK.out)
  have CR := Lib.hid (fun W (hW : Below w3.heap.size w3 W) => rplan_any A2 A4 C qx c2 qy c4 z e X Y J W HQX.out HQY.out HJL.out hze (by have := HXL.out; omega) (by have := HYL.out; omega) (by omega) (HR.out.a2.below hW) (HR.out.a4.below hW) (HJA.out.below hW))
  have HPL := Lib.hid (planP_len X Y J z)
  generalize planP X Y J z = P at *
  obtain ⟨ql, hql⟩ : ∃ q, q = P.length := ⟨_, rfl⟩
  rw [← hql] at CP CR HPL
  have HQL := Lib.hid hql
  clear hql hze
  go_upto_region 6 with fail
  clear hzi c2'
  go_wp2_with fail
  refine CP.out.mono ?_
  rintro e w4 ⟨v4, rfl, hv4, hb4⟩
  obtain ⟨A5, c5, rfl, _, _, hat5⟩ := at_of_own' hv4
  have HAT5 := Lib.hid hat5
  have HB4 := Lib.hid hb4
  clear hv4 hat5 hb4 CP
  go_wp2_with fail
  refine (CR.out _ HB4.out).mono ?_
  rintro e w5 ⟨v5, rfl, hv5, hb5⟩
  obtain ⟨A6, c6, rfl, _, _, hat6⟩ := at_of_own' hv5
  have CS := Lib.hid (same23_any A5 A6 ql c5 c6 P w5 HQL.out (by have := HPL.out; omega) (HAT5.out.below hb5) hat6)
  have HB5 := Lib.hid (HR.out.k.trans ((HB4.out.trans (hb5.mono HB4.out.size)).mono HR.out.k.size))
  clear hv5 hat6 hb5 CR HAT5 HB4
  go_wp2_with fail
  refine CS.out.mono ?_
  rintro e w6 ⟨rfl, q6, rfl⟩
  go_wp2
  go_ret
  exact ⟨rfl, drewN_belowS HB5.out q6⟩
end Go.Proofs.Ytdaohjimfgdmbaa
