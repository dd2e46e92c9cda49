/- The walk of FlipBack. -/
import Derived.Test.YtdaohjimfgdmbaaFpC1
import Derived.Test.YtdaohjimfgdmbaaFpB2
import Derived.Test.YtdaohjimfgdmbaaFpP
import Derived.Test.YtdaohjimfgdmbaaSpGet2
namespace Go.Proofs.Ytdaohjimfgdmbaa
open Go.RowKit Go.Maps Sn M
structure FbK (w W : World) (A1 A2 A3 A4 C : Option Addr) (X Y : List En) (J : List Int) : Prop where
  r : Rs2 w W A1 A2 A3 A4 X Y
  j : At W C (J.flatMap zc)
theorem FbK.below {w W W' : World} {A1 A2 A3 A4 C : Option Addr} {X Y : List En} {J : List Int} (h : FbK w W A1 A2 A3 A4 C X Y J) (hb : Below W.heap.size W W') : FbK w W' A1 A2 A3 A4 C X Y J := ⟨h.r.below hb, h.j.below hb⟩
/-- all numbers of the first k entries are small. -/
def Small (X : List En) (k : Nat) : Prop := ∀ i, i < k → inB (el X i).x ∧ inB (el X i).y
theorem Small.all {X : List En} (h : Small X X.length) {id : Int} {a : En} (ha : lastAt En.id X id = some a) : inB a.x ∧ inB a.y := by
  obtain ⟨hm, _⟩ := lastAt_some ha
  obtain ⟨k, hk, rfl⟩ := mem_el hm
  exact h k hk
set_option maxHeartbeats 32000000 in
set_option maxRecDepth 100000 in
theorem flipBack_any (w : World) (v0 : Value) (h0 : BothArg w v0) :
    Calls Try.prog 7 #[v0] w fun e w' => e = .returned (.bool true) ∧ Below w.heap.size w w' := by
  obtain ⟨A, n, c, L, B, m, d, M, C, k, e, I, rfl, ⟨hn, hnc, hcm, hat, _, _⟩, ⟨hm, hmd, hdm, hbt, _, _⟩, ⟨hk, hke, hem, hct, hok, _⟩⟩ := h0
  obtain ⟨X, hX⟩ : ∃ X, X = L.take 15 := ⟨_, rfl⟩
  obtain ⟨Y, hY⟩ : ∃ Y, Y = M.take 15 := ⟨_, rfl⟩
  obtain ⟨J, hJ⟩ : ∃ J, J = I.take 15 := ⟨_, rfl⟩
  have hXl : X.length ≤ 15 := by rw [hX, List.length_take]; omega
  have hYl : Y.length ≤ 15 := by rw [hY, List.length_take]; omega
  obtain ⟨z, hz⟩ : ∃ z, z = min k 15 := ⟨_, rfl⟩
  have hJl : z = J.length := by rw [hJ, List.length_take, hz]; omega
  have hz20 : z ≤ 15 := by omega
  have hzk : z ≤ k := by omega
  obtain ⟨g, hg⟩ : ∃ g, g = w.heap.size := ⟨_, rfl⟩
  obtain ⟨W0, hW0⟩ : ∃ W, W = w.alloc (.cells #[.slice A n c, .slice B m d, .slice C k e] 51) := ⟨_, rfl⟩
  have hB0 : Below w.heap.size w W0 := by rw [hW0]; exact below_alloc w _
  have COwn1 : Hid (∀ W, Below W0.heap.size W0 W → Calls Try.prog 11 #[.slice A n c, .int .i64 15] W fun e w' => ∃ v u, e = .returned (.tuple #[v, u]) ∧ w'.ownsRow W.heap.size 74 5 v X.length (ecs X) ∧ w'.ownsRow W.heap.size 44 5 u X.length (ecs X) ∧ Below W.heap.size W w') := fun W hW => by
    have := own13_any A n c 15 L W hn (by omega) (by omega) ((hat.below hB0).below hW)
    rw [← hX] at this
    exact this
  have COwn2 : Hid (∀ W, Below W0.heap.size W0 W → Calls Try.prog 11 #[.slice B m d, .int .i64 15] W fun e w' => ∃ v u, e = .returned (.tuple #[v, u]) ∧ w'.ownsRow W.heap.size 74 5 v Y.length (ecs Y) ∧ w'.ownsRow W.heap.size 44 5 u Y.length (ecs Y) ∧ Below W.heap.size W w') := fun W hW => by
    have := own13_any B m d 15 M W hm (by omega) (by omega) ((hbt.below hB0).below hW)
    rw [← hY] at this
    exact this
  have HJ3 := Lib.hid (fun W (hW : Below W0.heap.size W0 W) => show At W C (J.flatMap zc) by rw [hJ]; exact ((hct.takeI 15).below hB0).below hW)
  have HOK : Hid (∀ x ∈ J, OkI x) := fun x hx => hok x (by rw [hJ] at hx; exact List.mem_of_mem_take hx)
  have HJL := Lib.hid hJl
  have K0 : Blk W0 g 51 #[.slice A n c, .slice B m d, .slice C k e] := by rw [hW0, hg]; exact Blk.new w _ _
  have HK0 := Lib.hid K0
  have HB0 := Lib.hid hB0
  have HW0 := Lib.hid hW0
  have HG := Lib.hid hg
  have HXL := Lib.hid hXl
  have HYL := Lib.hid hYl
  have HZ := Lib.hid hz
  clear hz
  have hmin : IntKind.i64.wrap (0 : Int) = 0 := rfl
  unfold maxLen at hcm hdm hem
  clear hX hY hJ hn hm hk hat hbt hct hok hJl K0 hB0 hW0 hg hmin hXl hYl
  obtain ⟨qx, hqx⟩ : ∃ q, q = X.length := ⟨_, rfl⟩
  obtain ⟨qy, hqy⟩ : ∃ q, q = Y.length := ⟨_, rfl⟩
  have HQX := Lib.hid hqx
  have HQY := Lib.hid hqy
  rw [← hqx] at COwn1 HXL
  rw [← hqy] at COwn2 HYL
  clear hqx hqy
  go_enter Try.func7, Try.ntmps7
  go_wp2_with fail
  rw [← HW0.out, ← HG.out]
  refine (awake23_any _).mono ?_
  rintro e w1 ⟨rfl, hb1⟩
  have K1 := Lib.hid (HK0.out.below hb1)
  have HB1 := Lib.hid hb1
  have c0 := K1.out.cell 0 (v := .slice A n c) rfl
  clear hb1
  go_wp2_with fail
  refine (COwn1.out _ HB1.out).mono ?_
  rintro e w2 ⟨v1, u1, rfl, hv1, hu1, hb2⟩
  obtain ⟨A1, c1, rfl, _, _, hat1⟩ := at_of_own' hv1
  obtain ⟨A2, c2, rfl, _, _, hat2⟩ := at_of_own' hu1
  have HN1 := Lib.hid (own_addr hv1)
  have HAT := Lib.hid (And.intro hat1 hat2)
  have K2 := Lib.hid (K1.out.below hb2)
  have HB2 := Lib.hid (HB1.out.trans (hb2.mono HB1.out.size))
  have c1' := K2.out.cell 1 (v := .slice B m d) rfl
  clear hv1 hu1 hb2 hat1 hat2 c0 K1 HB1
  go_wp2_with fail
  refine (COwn2.out _ HB2.out).mono ?_
  rintro e w3 ⟨v3, u3, rfl, hv3, hu3, hb3⟩
  obtain ⟨A3, c3, rfl, _, _, hat3⟩ := at_of_own' hv3
  obtain ⟨A4, c4, rfl, _, _, hat4⟩ := at_of_own' hu3
  have HN3 := Lib.hid (own_addr hv3)
  have HR := Lib.hid (show Rs2 w w3 A1 A2 A3 A4 X Y from ⟨HAT.out.1.below hb3, HAT.out.2.below hb3, hat3, hat4, HB0.out.trans ((HB2.out.trans (hb3.mono HB2.out.size)).mono HB0.out.size)⟩)
  have HJA := Lib.hid (HJ3.out _ (HB2.out.trans (hb3.mono HB2.out.size)))
  have c2' := (K2.out.below hb3).cell 2 (v := .slice C k e) rfl
  clear hv3 hu3 hb3 hat3 hat4 c1' K2 HB2 HAT
  have hzi : min (k : Int) 15 = (z : Int) := by have := HZ.out; omega
  have hze : z ≤ e := by omega
  have HK := Lib.hid (show FbK w w3 A1 A2 A3 A4 C X Y J from ⟨HR.out, HJA.out⟩)
  have HZE := Lib.hid hze
  go_upto_region 6 with fail
  clear hzi c2' HR HJA hze
  obtain ⟨gl, hgl⟩ : ∃ g, g = w3.heap.size := ⟨_, rfl⟩
  obtain ⟨W4, hW4⟩ : ∃ W, W = w3.alloc (.cells #[.slice A2 qx c2, .slice A4 qy c4] 22) := ⟨_, rfl⟩
  have HK4 := Lib.hid (show FbK w W4 A1 A2 A3 A4 C X Y J by rw [hW4]; exact HK.out.below (below_alloc _ _))
  have BL := Lib.hid (show Blk W4 gl 22 #[.slice A2 qx c2, .slice A4 qy c4] by rw [hW4, hgl]; exact Blk.new w3 _ _)
  have HW4 := Lib.hid hW4
  have HGL := Lib.hid hgl
  clear hW4 hgl HK
  go_wp2_with fail
  rw [← HW4.out, ← HGL.out]
  go_loopw [48] (fun i wr => ∃ t : Nat, t ≤ 2 ∧ i = .int .i64 t ∧ Hid (FbK w wr A1 A2 A3 A4 C X Y J) ∧ Hid (Blk wr gl 22 #[.slice A2 qx c2, .slice A4 qy c4]) ∧ Hid (0 < t → Small X qx) ∧ Hid (1 < t → Small Y qy)) (fun i _ => 2 - (intOf i).toNat)
  case atStart => exact ⟨0, by omega, rfl, HK4, BL, Lib.hid (fun h => absurd h (by omega)), Lib.hid (fun h => absurd h (by omega))⟩
  case round =>
    obtain ⟨t, ht, rfl, hK, hBL, hsx, hsy⟩ := hrel
    have l0 := hBL.out.cell 0 (v := .slice A2 qx c2) rfl
    have l1 := hBL.out.cell 1 (v := .slice A4 qy c4) rfl
    rcases (show t = 0 ∨ t = 1 ∨ t = 2 by omega) with rfl | rfl | rfl
    · have HQZ := Lib.hid HQX.out
      go_wp2_with fail
      clear l0 l1
      go_loopw [54] (fun i wx => ∃ p : Nat, p ≤ qx ∧ i = .int .i64 p ∧ Hid (FbK w wx A1 A2 A3 A4 C X Y J) ∧ Hid (Blk wx gl 22 #[.slice A2 qx c2, .slice A4 qy c4]) ∧ Hid (Small X p)) (fun i _ => qx - (intOf i).toNat)
      case atStart => exact ⟨0, Nat.zero_le _, rfl, hK, hBL, Lib.hid (fun i h => absurd h (by omega))⟩
      case round =>
        obtain ⟨p, hp, rfl, hK5, hBL5, hsm⟩ := hrel
        rename World => wx
        by_cases hlt : p < qx
        · have hpz : p < X.length := by have := HQZ.out; omega
          have hpb : p ≤ 1000 := by have := HXL.out; omega
          obtain ⟨b1, o1, hA, hb1, e0, e1, e2, e3, e4⟩ := at_en hK5.out.r.a2 hpz
          subst hA
          obtain ⟨x1, hx1⟩ : ∃ x, x = (el X p).x := ⟨_, rfl⟩
          obtain ⟨x2, hx2⟩ : ∃ x, x = (el X p).y := ⟨_, rfl⟩
          rw [← hx1] at e1
          rw [← hx2] at e2
          have HX1 := Lib.hid hx1
          have HX2 := Lib.hid hx2
          generalize (el X p).id = x0 at *
          generalize (el X p).w = x3 at *
          generalize (el X p).h = x4 at *
          obtain ⟨W6, hW6⟩ : ∃ W, W = (wx.alloc (.cells #[.int .i64 x0, .int .i64 x1, .int .i64 x2, .int .i64 x3, .int .i64 x4] 44)).alloc (.cells #[.int .i64 x1, .int .i64 x2] 3) := ⟨_, rfl⟩
          have hb6 : Below wx.heap.size wx W6 := by rw [hW6]; exact (below_alloc wx _).alloc (by simp) _
          obtain ⟨gn, hgn⟩ : ∃ g, g = wx.heap.size := ⟨_, rfl⟩
          have BN := Lib.hid (show Blk W6 (gn + 1) 3 #[.int .i64 x1, .int .i64 x2] by rw [hW6, hgn]; exact Blk.new' _ _ _ _ (by simp))
          have HK6 := Lib.hid (hK5.out.below hb6)
          have HBL6 := Lib.hid (hBL5.out.below hb6)
          have HW6 := Lib.hid hW6
          have HGN := Lib.hid hgn
          clear hW6 hb6 hgn hx1 hx2 hpz hK5 hBL5
          go_upto_region 13 with fail
          clear e0 e1 e2 e3 e4
          rw [← HW6.out, ← HGN.out]
          go_loop [66] (fun i => ∃ s : Nat, s ≤ 2 ∧ i = .int .i64 s ∧ Hid (0 < s → inB x1) ∧ Hid (1 < s → inB x2)) (fun i => 2 - (intOf i).toNat)
          case atStart => exact ⟨0, by omega, rfl, Lib.hid (fun h => absurd h (by omega)), Lib.hid (fun h => absurd h (by omega))⟩
          case round =>
            obtain ⟨s, hs, rfl, h1, h2⟩ := hrel
            have n0 := BN.out.cell 0 (v := .int .i64 x1) rfl
            have n1 := BN.out.cell 1 (v := .int .i64 x2) rfl
            rcases (show s = 0 ∨ s = 1 ∨ s = 2 by omega) with rfl | rfl | rfl
            · by_cases hz1 : x1 < -1000000000
              · go_wp2
                go_ret
                exact ⟨rfl, HK6.out.r.k⟩
              · by_cases hz2 : x1 > 1000000000
                · go_wp2
                  go_ret
                  exact ⟨rfl, HK6.out.r.k⟩
                · have H1 : Hid (inB x1) := ⟨by omega, by omega⟩
                  go_wp2
                  go_round
                  case rel => exact ⟨0 + 1, by omega, by go_num, Lib.hid (fun _ => H1.out), Lib.hid (fun h => absurd h (by omega))⟩
                  case measure => simp [intOf]
            · by_cases hz1 : x2 < -1000000000
              · go_wp2
                go_ret
                exact ⟨rfl, HK6.out.r.k⟩
              · by_cases hz2 : x2 > 1000000000
                · go_wp2
                  go_ret
                  exact ⟨rfl, HK6.out.r.k⟩
                · have H1 : Hid (inB x2) := ⟨by omega, by omega⟩
                  go_wp2
                  go_round
                  case rel => exact ⟨1 + 1, by omega, by go_num, Lib.hid (fun _ => h1.out (by omega)), Lib.hid (fun _ => H1.out)⟩
                  case measure => simp [intOf]
            · have HSM : Hid (Small X (p + 1)) := by
                show Small _ _
                intro i hi
                rcases Nat.lt_or_ge i p with h | h
                · exact hsm.out i h
                · rw [show i = p by omega, ← HX1.out, ← HX2.out]
                  exact ⟨h1.out (by omega), h2.out (by omega)⟩
              clear n0 n1 h1 h2
              go_wp2
              go_roundw
              case rel => exact ⟨p + 1, by omega, by go_num, HK6, HBL6, HSM⟩
              case measure => simp [intOf]; omega
        · obtain rfl : p = qx := by omega
          go_wp2
          go_roundw
          case rel => exact ⟨0 + 1, by omega, by go_num, hK5, hBL5, Lib.hid (fun _ => hsm.out), Lib.hid (fun h => absurd h (by omega))⟩
          case measure => simp [intOf]
    · have HQZ := Lib.hid HQY.out
      go_wp2_with fail
      clear l0 l1
      go_loopw [54] (fun i wx => ∃ p : Nat, p ≤ qy ∧ i = .int .i64 p ∧ Hid (FbK w wx A1 A2 A3 A4 C X Y J) ∧ Hid (Blk wx gl 22 #[.slice A2 qx c2, .slice A4 qy c4]) ∧ Hid (Small Y p)) (fun i _ => qy - (intOf i).toNat)
      case atStart => exact ⟨0, Nat.zero_le _, rfl, hK, hBL, Lib.hid (fun i h => absurd h (by omega))⟩
      case round =>
        obtain ⟨p, hp, rfl, hK5, hBL5, hsm⟩ := hrel
        rename World => wx
        by_cases hlt : p < qy
        · have hpz : p < Y.length := by have := HQZ.out; omega
          have hpb : p ≤ 1000 := by have := HYL.out; omega
          obtain ⟨b1, o1, hA, hb1, e0, e1, e2, e3, e4⟩ := at_en hK5.out.r.a4 hpz
          subst hA
          obtain ⟨x1, hx1⟩ : ∃ x, x = (el Y p).x := ⟨_, rfl⟩
          obtain ⟨x2, hx2⟩ : ∃ x, x = (el Y p).y := ⟨_, rfl⟩
          rw [← hx1] at e1
          rw [← hx2] at e2
          have HX1 := Lib.hid hx1
          have HX2 := Lib.hid hx2
          generalize (el Y p).id = x0 at *
          generalize (el Y p).w = x3 at *
          generalize (el Y p).h = x4 at *
          obtain ⟨W6, hW6⟩ : ∃ W, W = (wx.alloc (.cells #[.int .i64 x0, .int .i64 x1, .int .i64 x2, .int .i64 x3, .int .i64 x4] 44)).alloc (.cells #[.int .i64 x1, .int .i64 x2] 3) := ⟨_, rfl⟩
          have hb6 : Below wx.heap.size wx W6 := by rw [hW6]; exact (below_alloc wx _).alloc (by simp) _
          obtain ⟨gn, hgn⟩ : ∃ g, g = wx.heap.size := ⟨_, rfl⟩
          have BN := Lib.hid (show Blk W6 (gn + 1) 3 #[.int .i64 x1, .int .i64 x2] by rw [hW6, hgn]; exact Blk.new' _ _ _ _ (by simp))
          have HK6 := Lib.hid (hK5.out.below hb6)
          have HBL6 := Lib.hid (hBL5.out.below hb6)
          have HW6 := Lib.hid hW6
          have HGN := Lib.hid hgn
          clear hW6 hb6 hgn hx1 hx2 hpz hK5 hBL5
          go_upto_region 13 with fail
          clear e0 e1 e2 e3 e4
          rw [← HW6.out, ← HGN.out]
          go_loop [66] (fun i => ∃ s : Nat, s ≤ 2 ∧ i = .int .i64 s ∧ Hid (0 < s → inB x1) ∧ Hid (1 < s → inB x2)) (fun i => 2 - (intOf i).toNat)
          case atStart => exact ⟨0, by omega, rfl, Lib.hid (fun h => absurd h (by omega)), Lib.hid (fun h => absurd h (by omega))⟩
          case round =>
            obtain ⟨s, hs, rfl, h1, h2⟩ := hrel
            have n0 := BN.out.cell 0 (v := .int .i64 x1) rfl
            have n1 := BN.out.cell 1 (v := .int .i64 x2) rfl
            rcases (show s = 0 ∨ s = 1 ∨ s = 2 by omega) with rfl | rfl | rfl
            · by_cases hz1 : x1 < -1000000000
              · go_wp2
                go_ret
                exact ⟨rfl, HK6.out.r.k⟩
              · by_cases hz2 : x1 > 1000000000
                · go_wp2
                  go_ret
                  exact ⟨rfl, HK6.out.r.k⟩
                · have H1 : Hid (inB x1) := ⟨by omega, by omega⟩
                  go_wp2
                  go_round
                  case rel => exact ⟨0 + 1, by omega, by go_num, Lib.hid (fun _ => H1.out), Lib.hid (fun h => absurd h (by omega))⟩
                  case measure => simp [intOf]
            · by_cases hz1 : x2 < -1000000000
              · go_wp2
                go_ret
                exact ⟨rfl, HK6.out.r.k⟩
              · by_cases hz2 : x2 > 1000000000
                · go_wp2
                  go_ret
                  exact ⟨rfl, HK6.out.r.k⟩
                · have H1 : Hid (inB x2) := ⟨by omega, by omega⟩
                  go_wp2
                  go_round
                  case rel => exact ⟨1 + 1, by omega, by go_num, Lib.hid (fun _ => h1.out (by omega)), Lib.hid (fun _ => H1.out)⟩
                  case measure => simp [intOf]
            · have HSM : Hid (Small Y (p + 1)) := by
                show Small _ _
                intro i hi
                rcases Nat.lt_or_ge i p with h | h
                · exact hsm.out i h
                · rw [show i = p by omega, ← HX1.out, ← HX2.out]
                  exact ⟨h1.out (by omega), h2.out (by omega)⟩
              clear n0 n1 h1 h2
              go_wp2
              go_roundw
              case rel => exact ⟨p + 1, by omega, by go_num, HK6, HBL6, HSM⟩
              case measure => simp [intOf]; omega
        · obtain rfl : p = qy := by omega
          go_wp2
          go_roundw
          case rel => exact ⟨1 + 1, by omega, by go_num, hK5, hBL5, Lib.hid (fun _ => hsx.out (by omega)), Lib.hid (fun _ => hsm.out)⟩
          case measure => simp [intOf]
    · have HSX := Lib.hid (hsx.out (by omega))
      have HSY := Lib.hid (hsy.out (by omega))
      clear l0 l1 hsx hsy hBL
      rename World => wr
      obtain ⟨R, hR⟩ := snap_ex Y
      have CP := Lib.hid (plan_any A1 A3 C qx c1 qy c3 z e X Y J wr HQX.out HQY.out HJL.out (by have := HXL.out; omega) (by have := HYL.out; omega) (by omega) HN1.out HN3.out hK.out.r.a1 hK.out.r.a3 hK.out.j HOK.out)
      have HPL := Lib.hid (planP_len X Y J z)
      obtain ⟨P, hP⟩ : ∃ P, P = planP X Y J z := ⟨_, rfl⟩
      rw [← hP] at CP HPL
      obtain ⟨ql, hql⟩ : ∃ q, q = P.length := ⟨_, rfl⟩
      rw [← hql] at CP HPL
      have HQL := Lib.hid hql
      have CA := Lib.hid (fun W AP cP (h : At W A3 (ecs Y)) (h2 : At W AP (shcs P)) => apply_any A3 AP qy c3 ql cP Y R P W HQY.out (by have := HYL.out; omega) HN3.out h HQL.out (by have := HPL.out; omega) h2 hR)
      have HRL := Lib.hid (is_len hR)
      have HGET := Lib.hid (fun id => back_get (X := X) (J := J) hR id)
      have HAT := Lib.hid (fun (id : Int) (hid : id ∈ J) (a e : En) (ha : lastAt En.id X id = some a) (he : lastAt En.id Y id = some e) => back_at hid ha he (Small.all (by rw [← HQX.out]; exact HSX.out) ha).1 (Small.all (by rw [← HQX.out]; exact HSX.out) ha).2 (Small.all (by rw [← HQY.out]; exact HSY.out) he).1 (Small.all (by rw [← HQY.out]; exact HSY.out) he).2)
      rw [← HJL.out, ← hP] at HGET HAT
      have HQS := Lib.hid (show R.length = (appS R P).length from (appS_len P R).symm)
      clear hql hP hR HSX HSY
      obtain ⟨qr, hqr⟩ : ∃ q, q = R.length := ⟨_, rfl⟩
      rw [← hqr] at CA HRL HQS
      clear hqr
      obtain ⟨V, hV⟩ : ∃ V, V = appS R P := ⟨_, rfl⟩
      rw [← hV] at CA HGET HQS
      clear hV
      go_wp2_with fail
      refine CP.out.mono ?_
      rintro e9 w6 ⟨v6, rfl, hv6, hb6⟩
      obtain ⟨A5, c5, rfl, _, _, hat5⟩ := at_of_own' hv6
      have HK6 := Lib.hid (hK.out.below hb6)
      have C6 := Lib.hid (CA.out w6 A5 c5 HK6.out.r.a3 hat5)
      clear hv6 hat5 hb6 CP CA hK
      go_wp2_with fail
      refine C6.out.mono ?_
      rintro e9 w7 ⟨A6, c6, rfl, hat6, _, hb7⟩
      have HK7 := Lib.hid (HK6.out.below hb7)
      have HAT6 := Lib.hid hat6
      clear hat6 hb7 HK6 C6
      have hze := HZE.out
      go_wp2_with fail
      go_loopw [87] (fun i wx => ∃ p : Nat, p ≤ z ∧ i = .int .i64 p ∧ Hid (FbK w wx A1 A2 A3 A4 C X Y J) ∧ Hid (At wx A6 (ecs V))) (fun i _ => z - (intOf i).toNat)
      case atStart => exact ⟨0, Nat.zero_le _, rfl, HK7, HAT6⟩
      case round =>
        obtain ⟨p, hp, rfl, hK5, hat6⟩ := hrel
        rename World => wx
        by_cases hlt : p < z
        · have hpl : p < J.length := by have := HJL.out; omega
          obtain ⟨b1, o1, hC, hb1, hc1⟩ := zc_at hK5.out.j hpl
          subst hC
          have hmem : J.getD p 0 ∈ J := by rw [List.getD_eq_getElem?_getD, List.getElem?_eq_getElem hpl]; exact List.getElem_mem hpl
          generalize J.getD p 0 = id at *
          have G1 := snapGet_any A6 qr c6 V id wx HQS.out (by have := HRL.out; have := HYL.out; have := HQY.out; omega) hat6.out
          have G2 := Lib.hid (fun W (h : FbK w W A1 A2 A3 A4 (some ⟨b1, o1, none⟩) X Y J) => rget_any A2 qx c2 X id W HQX.out (by have := HXL.out; omega) h.r.a2)
          have G3 := Lib.hid (fun W (h : FbK w W A1 A2 A3 A4 (some ⟨b1, o1, none⟩) X Y J) => rget_any A4 qy c4 Y id W HQY.out (by have := HYL.out; omega) h.r.a4)
          rw [HGET.out id] at G1
          have hat := HAT.out id hmem
          cases hX : lastAt En.id X id with
          | none =>
            cases hY : lastAt En.id Y id with
            | none =>
              rw [hX] at G2
              rw [hY] at G1 G3
              have G1 : Hid (Calls Try.prog 12 #[.slice A6 qr c6, .int .i64 id] wx fun e w' => e = .returned (.tuple #[.agg #[.int .i64 0, .int .i64 0, .int .i64 0, .int .i64 0], .bool false]) ∧ Below wx.heap.size wx w') := G1
              have G2 : Hid (∀ W (_ : FbK w W A1 A2 A3 A4 (some ⟨b1, o1, none⟩) X Y J), Calls Try.prog 13 #[.slice A2 qx c2, .int .i64 id] W fun e w' => e = .returned (.tuple #[.agg #[.int .i64 0, .int .i64 0, .int .i64 0, .int .i64 0], .bool false]) ∧ Below W.heap.size W w') := G2
              have G3 : Hid (∀ W (_ : FbK w W A1 A2 A3 A4 (some ⟨b1, o1, none⟩) X Y J), Calls Try.prog 13 #[.slice A4 qy c4, .int .i64 id] W fun e w' => e = .returned (.tuple #[.agg #[.int .i64 0, .int .i64 0, .int .i64 0, .int .i64 0], .bool false]) ∧ Below W.heap.size W w') := G3
              clear hX hY hmem hpl
              go_wp2_with fail
              refine G1.out.mono ?_
              rintro e9 w5 ⟨rfl, hb5⟩
              obtain ⟨V5, hV5⟩ : ∃ V, V = w5.alloc (.cells #[.int .i64 0, .int .i64 0, .int .i64 0, .int .i64 0] 29) := ⟨_, rfl⟩
              have hb5' : Below wx.heap.size wx V5 := by rw [hV5]; exact hb5.alloc hb5.size _
              obtain ⟨g5, hg5⟩ : ∃ g, g = w5.heap.size := ⟨_, rfl⟩
              have D5 := Lib.hid (show Blk V5 g5 29 #[.int .i64 0, .int .i64 0, .int .i64 0, .int .i64 0] by rw [hV5, hg5]; exact Blk.new w5 _ _)
              have HKA := Lib.hid (hK5.out.below hb5')
              have HATA := Lib.hid (hat6.out.below hb5')
              have HV5 := Lib.hid hV5
              have HG5 := Lib.hid hg5
              clear hV5 hg5 hb5 hb5' hc1 hK5 hat6 G1
              go_upto_region 25 with fail
              rw [← HV5.out, ← HG5.out]
              go_wp2_with fail
              refine (G2.out _ HKA.out).mono ?_
              rintro e9 w6 ⟨rfl, hb6⟩
              obtain ⟨V6, hV6⟩ : ∃ V, V = w6.alloc (.cells #[.int .i64 0, .int .i64 0, .int .i64 0, .int .i64 0] 32) := ⟨_, rfl⟩
              have hb6' : Below V5.heap.size V5 V6 := by rw [hV6]; exact hb6.alloc hb6.size _
              obtain ⟨g6, hg6⟩ : ∃ g, g = w6.heap.size := ⟨_, rfl⟩
              have D6 := Lib.hid (show Blk V6 g6 32 #[.int .i64 0, .int .i64 0, .int .i64 0, .int .i64 0] by rw [hV6, hg6]; exact Blk.new w6 _ _)
              have D65 := Lib.hid (D5.out.below hb6')
              have HKB := Lib.hid (HKA.out.below hb6')
              have HATB := Lib.hid (HATA.out.below hb6')
              have HV6 := Lib.hid hV6
              have HG6 := Lib.hid hg6
              clear hV6 hg6 hb6 hb6' D5 HKA HATA G2
              go_upto_region 26 with fail
              rw [← HV6.out, ← HG6.out]
              go_wp2_with fail
              refine (G3.out _ HKB.out).mono ?_
              rintro e9 w7 ⟨rfl, hb7⟩
              obtain ⟨V7, hV7⟩ : ∃ V, V = w7.alloc (.cells #[.int .i64 0, .int .i64 0, .int .i64 0, .int .i64 0] 32) := ⟨_, rfl⟩
              have hb7' : Below V6.heap.size V6 V7 := by rw [hV7]; exact hb7.alloc hb7.size _
              obtain ⟨g7, hg7⟩ : ∃ g, g = w7.heap.size := ⟨_, rfl⟩
              have D7 := Lib.hid (show Blk V7 g7 32 #[.int .i64 0, .int .i64 0, .int .i64 0, .int .i64 0] by rw [hV7, hg7]; exact Blk.new w7 _ _)
              have D76 := Lib.hid (D6.out.below hb7')
              have D75 := Lib.hid (D65.out.below hb7')
              have HKC := Lib.hid (HKB.out.below hb7')
              have HATC := Lib.hid (HATB.out.below hb7')
              have HV7 := Lib.hid hV7
              have HG7 := Lib.hid hg7
              clear hV7 hg7 hb7 hb7' D6 D65 HKB HATB G3
              go_upto_region 27 with fail
              rw [← HV7.out, ← HG7.out]
              have m0 := D75.out.cell 0 rfl
              have m1 := D75.out.cell 1 rfl
              have m2 := D75.out.cell 2 rfl
              have m3 := D75.out.cell 3 rfl
              have m4 := D76.out.cell 0 rfl
              have m5 := D76.out.cell 1 rfl
              have m6 := D76.out.cell 2 rfl
              have m7 := D76.out.cell 3 rfl
              have m8 := D7.out.cell 0 rfl
              have m9 := D7.out.cell 1 rfl
              have ma := D7.out.cell 2 rfl
              have mb := D7.out.cell 3 rfl
              go_wp2
              go_roundw
              case rel => exact ⟨p + 1, by omega, by go_num, HKC, HATC⟩
              case measure => simp [intOf]; omega
            | some y =>
              obtain ⟨y0, y1, y2, y3, y4⟩ := y
              obtain ⟨f, hf⟩ : ∃ f, f = fo P ⟨y0, y1, y2, y3, y4⟩ := ⟨_, rfl⟩
              rw [hY] at G1
              rw [Option.map_some, ← hf] at G1
              obtain ⟨f0, f1, f2, f3, f4⟩ := f
              clear hf hat
              rw [hX] at G2
              rw [hY] at G3
              have G1 : Hid (Calls Try.prog 12 #[.slice A6 qr c6, .int .i64 id] wx fun e w' => e = .returned (.tuple #[.agg #[.int .i64 f1, .int .i64 f2, .int .i64 f3, .int .i64 f4], .bool true]) ∧ Below wx.heap.size wx w') := G1
              have G2 : Hid (∀ W (_ : FbK w W A1 A2 A3 A4 (some ⟨b1, o1, none⟩) X Y J), Calls Try.prog 13 #[.slice A2 qx c2, .int .i64 id] W fun e w' => e = .returned (.tuple #[.agg #[.int .i64 0, .int .i64 0, .int .i64 0, .int .i64 0], .bool false]) ∧ Below W.heap.size W w') := G2
              have G3 : Hid (∀ W (_ : FbK w W A1 A2 A3 A4 (some ⟨b1, o1, none⟩) X Y J), Calls Try.prog 13 #[.slice A4 qy c4, .int .i64 id] W fun e w' => e = .returned (.tuple #[.agg #[.int .i64 y1, .int .i64 y2, .int .i64 y3, .int .i64 y4], .bool true]) ∧ Below W.heap.size W w') := G3
              clear hX hY hmem hpl
              go_wp2_with fail
              refine G1.out.mono ?_
              rintro e9 w5 ⟨rfl, hb5⟩
              obtain ⟨V5, hV5⟩ : ∃ V, V = w5.alloc (.cells #[.int .i64 f1, .int .i64 f2, .int .i64 f3, .int .i64 f4] 29) := ⟨_, rfl⟩
              have hb5' : Below wx.heap.size wx V5 := by rw [hV5]; exact hb5.alloc hb5.size _
              obtain ⟨g5, hg5⟩ : ∃ g, g = w5.heap.size := ⟨_, rfl⟩
              have D5 := Lib.hid (show Blk V5 g5 29 #[.int .i64 f1, .int .i64 f2, .int .i64 f3, .int .i64 f4] by rw [hV5, hg5]; exact Blk.new w5 _ _)
              have HKA := Lib.hid (hK5.out.below hb5')
              have HATA := Lib.hid (hat6.out.below hb5')
              have HV5 := Lib.hid hV5
              have HG5 := Lib.hid hg5
              clear hV5 hg5 hb5 hb5' hc1 hK5 hat6 G1
              go_upto_region 25 with fail
              rw [← HV5.out, ← HG5.out]
              go_wp2_with fail
              refine (G2.out _ HKA.out).mono ?_
              rintro e9 w6 ⟨rfl, hb6⟩
              obtain ⟨V6, hV6⟩ : ∃ V, V = w6.alloc (.cells #[.int .i64 0, .int .i64 0, .int .i64 0, .int .i64 0] 32) := ⟨_, rfl⟩
              have hb6' : Below V5.heap.size V5 V6 := by rw [hV6]; exact hb6.alloc hb6.size _
              obtain ⟨g6, hg6⟩ : ∃ g, g = w6.heap.size := ⟨_, rfl⟩
              have D6 := Lib.hid (show Blk V6 g6 32 #[.int .i64 0, .int .i64 0, .int .i64 0, .int .i64 0] by rw [hV6, hg6]; exact Blk.new w6 _ _)
              have D65 := Lib.hid (D5.out.below hb6')
              have HKB := Lib.hid (HKA.out.below hb6')
              have HATB := Lib.hid (HATA.out.below hb6')
              have HV6 := Lib.hid hV6
              have HG6 := Lib.hid hg6
              clear hV6 hg6 hb6 hb6' D5 HKA HATA G2
              go_upto_region 26 with fail
              rw [← HV6.out, ← HG6.out]
              go_wp2_with fail
              refine (G3.out _ HKB.out).mono ?_
              rintro e9 w7 ⟨rfl, hb7⟩
              obtain ⟨V7, hV7⟩ : ∃ V, V = w7.alloc (.cells #[.int .i64 y1, .int .i64 y2, .int .i64 y3, .int .i64 y4] 32) := ⟨_, rfl⟩
              have hb7' : Below V6.heap.size V6 V7 := by rw [hV7]; exact hb7.alloc hb7.size _
              obtain ⟨g7, hg7⟩ : ∃ g, g = w7.heap.size := ⟨_, rfl⟩
              have D7 := Lib.hid (show Blk V7 g7 32 #[.int .i64 y1, .int .i64 y2, .int .i64 y3, .int .i64 y4] by rw [hV7, hg7]; exact Blk.new w7 _ _)
              have D76 := Lib.hid (D6.out.below hb7')
              have D75 := Lib.hid (D65.out.below hb7')
              have HKC := Lib.hid (HKB.out.below hb7')
              have HATC := Lib.hid (HATB.out.below hb7')
              have HV7 := Lib.hid hV7
              have HG7 := Lib.hid hg7
              clear hV7 hg7 hb7 hb7' D6 D65 HKB HATB G3
              go_upto_region 27 with fail
              rw [← HV7.out, ← HG7.out]
              have m0 := D75.out.cell 0 rfl
              have m1 := D75.out.cell 1 rfl
              have m2 := D75.out.cell 2 rfl
              have m3 := D75.out.cell 3 rfl
              have m4 := D76.out.cell 0 rfl
              have m5 := D76.out.cell 1 rfl
              have m6 := D76.out.cell 2 rfl
              have m7 := D76.out.cell 3 rfl
              have m8 := D7.out.cell 0 rfl
              have m9 := D7.out.cell 1 rfl
              have ma := D7.out.cell 2 rfl
              have mb := D7.out.cell 3 rfl
              go_wp2
              go_roundw
              case rel => exact ⟨p + 1, by omega, by go_num, HKC, HATC⟩
              case measure => simp [intOf]; omega
          | some x =>
            obtain ⟨x0, x1, x2, x3, x4⟩ := x
            cases hY : lastAt En.id Y id with
            | none =>
              rw [hX] at G2
              rw [hY] at G1 G3
              have G1 : Hid (Calls Try.prog 12 #[.slice A6 qr c6, .int .i64 id] wx fun e w' => e = .returned (.tuple #[.agg #[.int .i64 0, .int .i64 0, .int .i64 0, .int .i64 0], .bool false]) ∧ Below wx.heap.size wx w') := G1
              have G2 : Hid (∀ W (_ : FbK w W A1 A2 A3 A4 (some ⟨b1, o1, none⟩) X Y J), Calls Try.prog 13 #[.slice A2 qx c2, .int .i64 id] W fun e w' => e = .returned (.tuple #[.agg #[.int .i64 x1, .int .i64 x2, .int .i64 x3, .int .i64 x4], .bool true]) ∧ Below W.heap.size W w') := G2
              have G3 : Hid (∀ W (_ : FbK w W A1 A2 A3 A4 (some ⟨b1, o1, none⟩) X Y J), Calls Try.prog 13 #[.slice A4 qy c4, .int .i64 id] W fun e w' => e = .returned (.tuple #[.agg #[.int .i64 0, .int .i64 0, .int .i64 0, .int .i64 0], .bool false]) ∧ Below W.heap.size W w') := G3
              clear hX hY hmem hpl
              go_wp2_with fail
              refine G1.out.mono ?_
              rintro e9 w5 ⟨rfl, hb5⟩
              obtain ⟨V5, hV5⟩ : ∃ V, V = w5.alloc (.cells #[.int .i64 0, .int .i64 0, .int .i64 0, .int .i64 0] 29) := ⟨_, rfl⟩
              have hb5' : Below wx.heap.size wx V5 := by rw [hV5]; exact hb5.alloc hb5.size _
              obtain ⟨g5, hg5⟩ : ∃ g, g = w5.heap.size := ⟨_, rfl⟩
              have D5 := Lib.hid (show Blk V5 g5 29 #[.int .i64 0, .int .i64 0, .int .i64 0, .int .i64 0] by rw [hV5, hg5]; exact Blk.new w5 _ _)
              have HKA := Lib.hid (hK5.out.below hb5')
              have HATA := Lib.hid (hat6.out.below hb5')
              have HV5 := Lib.hid hV5
              have HG5 := Lib.hid hg5
              clear hV5 hg5 hb5 hb5' hc1 hK5 hat6 G1
              go_upto_region 25 with fail
              rw [← HV5.out, ← HG5.out]
              go_wp2_with fail
              refine (G2.out _ HKA.out).mono ?_
              rintro e9 w6 ⟨rfl, hb6⟩
              obtain ⟨V6, hV6⟩ : ∃ V, V = w6.alloc (.cells #[.int .i64 x1, .int .i64 x2, .int .i64 x3, .int .i64 x4] 32) := ⟨_, rfl⟩
              have hb6' : Below V5.heap.size V5 V6 := by rw [hV6]; exact hb6.alloc hb6.size _
              obtain ⟨g6, hg6⟩ : ∃ g, g = w6.heap.size := ⟨_, rfl⟩
              have D6 := Lib.hid (show Blk V6 g6 32 #[.int .i64 x1, .int .i64 x2, .int .i64 x3, .int .i64 x4] by rw [hV6, hg6]; exact Blk.new w6 _ _)
              have D65 := Lib.hid (D5.out.below hb6')
              have HKB := Lib.hid (HKA.out.below hb6')
              have HATB := Lib.hid (HATA.out.below hb6')
              have HV6 := Lib.hid hV6
              have HG6 := Lib.hid hg6
              clear hV6 hg6 hb6 hb6' D5 HKA HATA G2
              go_upto_region 26 with fail
              rw [← HV6.out, ← HG6.out]
              go_wp2_with fail
              refine (G3.out _ HKB.out).mono ?_
              rintro e9 w7 ⟨rfl, hb7⟩
              obtain ⟨V7, hV7⟩ : ∃ V, V = w7.alloc (.cells #[.int .i64 0, .int .i64 0, .int .i64 0, .int .i64 0] 32) := ⟨_, rfl⟩
              have hb7' : Below V6.heap.size V6 V7 := by rw [hV7]; exact hb7.alloc hb7.size _
              obtain ⟨g7, hg7⟩ : ∃ g, g = w7.heap.size := ⟨_, rfl⟩
              have D7 := Lib.hid (show Blk V7 g7 32 #[.int .i64 0, .int .i64 0, .int .i64 0, .int .i64 0] by rw [hV7, hg7]; exact Blk.new w7 _ _)
              have D76 := Lib.hid (D6.out.below hb7')
              have D75 := Lib.hid (D65.out.below hb7')
              have HKC := Lib.hid (HKB.out.below hb7')
              have HATC := Lib.hid (HATB.out.below hb7')
              have HV7 := Lib.hid hV7
              have HG7 := Lib.hid hg7
              clear hV7 hg7 hb7 hb7' D6 D65 HKB HATB G3
              go_upto_region 27 with fail
              rw [← HV7.out, ← HG7.out]
              have m0 := D75.out.cell 0 rfl
              have m1 := D75.out.cell 1 rfl
              have m2 := D75.out.cell 2 rfl
              have m3 := D75.out.cell 3 rfl
              have m4 := D76.out.cell 0 rfl
              have m5 := D76.out.cell 1 rfl
              have m6 := D76.out.cell 2 rfl
              have m7 := D76.out.cell 3 rfl
              have m8 := D7.out.cell 0 rfl
              have m9 := D7.out.cell 1 rfl
              have ma := D7.out.cell 2 rfl
              have mb := D7.out.cell 3 rfl
              go_wp2
              go_roundw
              case rel => exact ⟨p + 1, by omega, by go_num, HKC, HATC⟩
              case measure => simp [intOf]; omega
            | some y =>
              obtain ⟨y0, y1, y2, y3, y4⟩ := y
              have hat := hat _ _ hX hY
              obtain ⟨f, hf⟩ : ∃ f, f = fo P ⟨y0, y1, y2, y3, y4⟩ := ⟨_, rfl⟩
              rw [hY] at G1
              rw [Option.map_some, ← hf] at G1
              rw [← hf] at hat
              obtain ⟨f0, f1, f2, f3, f4⟩ := f
              dsimp only at hat
              obtain ⟨rfl, rfl, rfl, rfl⟩ := hat
              clear hf
              rw [hX] at G2
              rw [hY] at G3
              have G1 : Hid (Calls Try.prog 12 #[.slice A6 qr c6, .int .i64 id] wx fun e w' => e = .returned (.tuple #[.agg #[.int .i64 f1, .int .i64 f2, .int .i64 f3, .int .i64 f4], .bool true]) ∧ Below wx.heap.size wx w') := G1
              have G2 : Hid (∀ W (_ : FbK w W A1 A2 A3 A4 (some ⟨b1, o1, none⟩) X Y J), Calls Try.prog 13 #[.slice A2 qx c2, .int .i64 id] W fun e w' => e = .returned (.tuple #[.agg #[.int .i64 f1, .int .i64 f2, .int .i64 x3, .int .i64 x4], .bool true]) ∧ Below W.heap.size W w') := G2
              have G3 : Hid (∀ W (_ : FbK w W A1 A2 A3 A4 (some ⟨b1, o1, none⟩) X Y J), Calls Try.prog 13 #[.slice A4 qy c4, .int .i64 id] W fun e w' => e = .returned (.tuple #[.agg #[.int .i64 y1, .int .i64 y2, .int .i64 f3, .int .i64 f4], .bool true]) ∧ Below W.heap.size W w') := G3
              clear hX hY hmem hpl
              go_wp2_with fail
              refine G1.out.mono ?_
              rintro e9 w5 ⟨rfl, hb5⟩
              obtain ⟨V5, hV5⟩ : ∃ V, V = w5.alloc (.cells #[.int .i64 f1, .int .i64 f2, .int .i64 f3, .int .i64 f4] 29) := ⟨_, rfl⟩
              have hb5' : Below wx.heap.size wx V5 := by rw [hV5]; exact hb5.alloc hb5.size _
              obtain ⟨g5, hg5⟩ : ∃ g, g = w5.heap.size := ⟨_, rfl⟩
              have D5 := Lib.hid (show Blk V5 g5 29 #[.int .i64 f1, .int .i64 f2, .int .i64 f3, .int .i64 f4] by rw [hV5, hg5]; exact Blk.new w5 _ _)
              have HKA := Lib.hid (hK5.out.below hb5')
              have HATA := Lib.hid (hat6.out.below hb5')
              have HV5 := Lib.hid hV5
              have HG5 := Lib.hid hg5
              clear hV5 hg5 hb5 hb5' hc1 hK5 hat6 G1
              go_upto_region 25 with fail
              rw [← HV5.out, ← HG5.out]
              go_wp2_with fail
              refine (G2.out _ HKA.out).mono ?_
              rintro e9 w6 ⟨rfl, hb6⟩
              obtain ⟨V6, hV6⟩ : ∃ V, V = w6.alloc (.cells #[.int .i64 f1, .int .i64 f2, .int .i64 x3, .int .i64 x4] 32) := ⟨_, rfl⟩
              have hb6' : Below V5.heap.size V5 V6 := by rw [hV6]; exact hb6.alloc hb6.size _
              obtain ⟨g6, hg6⟩ : ∃ g, g = w6.heap.size := ⟨_, rfl⟩
              have D6 := Lib.hid (show Blk V6 g6 32 #[.int .i64 f1, .int .i64 f2, .int .i64 x3, .int .i64 x4] by rw [hV6, hg6]; exact Blk.new w6 _ _)
              have D65 := Lib.hid (D5.out.below hb6')
              have HKB := Lib.hid (HKA.out.below hb6')
              have HATB := Lib.hid (HATA.out.below hb6')
              have HV6 := Lib.hid hV6
              have HG6 := Lib.hid hg6
              clear hV6 hg6 hb6 hb6' D5 HKA HATA G2
              go_upto_region 26 with fail
              rw [← HV6.out, ← HG6.out]
              go_wp2_with fail
              refine (G3.out _ HKB.out).mono ?_
              rintro e9 w7 ⟨rfl, hb7⟩
              obtain ⟨V7, hV7⟩ : ∃ V, V = w7.alloc (.cells #[.int .i64 y1, .int .i64 y2, .int .i64 f3, .int .i64 f4] 32) := ⟨_, rfl⟩
              have hb7' : Below V6.heap.size V6 V7 := by rw [hV7]; exact hb7.alloc hb7.size _
              obtain ⟨g7, hg7⟩ : ∃ g, g = w7.heap.size := ⟨_, rfl⟩
              have D7 := Lib.hid (show Blk V7 g7 32 #[.int .i64 y1, .int .i64 y2, .int .i64 f3, .int .i64 f4] by rw [hV7, hg7]; exact Blk.new w7 _ _)
              have D76 := Lib.hid (D6.out.below hb7')
              have D75 := Lib.hid (D65.out.below hb7')
              have HKC := Lib.hid (HKB.out.below hb7')
              have HATC := Lib.hid (HATB.out.below hb7')
              have HV7 := Lib.hid hV7
              have HG7 := Lib.hid hg7
              clear hV7 hg7 hb7 hb7' D6 D65 HKB HATB G3
              go_upto_region 27 with fail
              rw [← HV7.out, ← HG7.out]
              have m0 := D75.out.cell 0 rfl
              have m1 := D75.out.cell 1 rfl
              have m2 := D75.out.cell 2 rfl
              have m3 := D75.out.cell 3 rfl
              have m4 := D76.out.cell 0 rfl
              have m5 := D76.out.cell 1 rfl
              have m6 := D76.out.cell 2 rfl
              have m7 := D76.out.cell 3 rfl
              have m8 := D7.out.cell 0 rfl
              have m9 := D7.out.cell 1 rfl
              have ma := D7.out.cell 2 rfl
              have mb := D7.out.cell 3 rfl
              go_wp2
              go_roundw
              case rel => exact ⟨p + 1, by omega, by go_num, HKC, HATC⟩
              case measure => simp [intOf]; omega
        · obtain rfl : p = z := by omega
          go_wp2
          go_ret
          exact ⟨rfl, hK5.out.r.k⟩
end Go.Proofs.Ytdaohjimfgdmbaa
