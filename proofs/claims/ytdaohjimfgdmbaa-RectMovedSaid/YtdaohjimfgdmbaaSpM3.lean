/- The walk of RectMoved. -/
import Derived.Test.YtdaohjimfgdmbaaSpM2
import Derived.Test.YtdaohjimfgdmbaaFpP
namespace Go.Proofs.Ytdaohjimfgdmbaa
open Go.RowKit Go.Maps Sn M
attribute [-go_sem] Builtin.append_
attribute [-go_sem] eqt_scrimref13_Rect eq_scrimref13_Rect
def NeR (r1 r2 r3 r4 x1 x2 x3 x4 : Int) : Prop := ¬ (r1 = x1 ∧ r2 = x2 ∧ r3 = x3 ∧ r4 = x4)
theorem eqR_self (x1 x2 x3 x4 : Int) (w : World) : (Op.equalIn 10000 32 (.agg #[.int .i64 x1, .int .i64 x2, .int .i64 x3, .int .i64 x4]) (.agg #[.int .i64 x1, .int .i64 x2, .int .i64 x3, .int .i64 x4])).run Try.prog w = .ok true w := by rw [eqt_scrimref13_Rect]; simp
theorem eqR_ne (x1 x2 x3 x4 r1 r2 r3 r4 : Int) (h : NeR r1 r2 r3 r4 x1 x2 x3 x4) (w : World) : (Op.equalIn 10000 32 (.agg #[.int .i64 r1, .int .i64 r2, .int .i64 r3, .int .i64 r4]) (.agg #[.int .i64 x1, .int .i64 x2, .int .i64 x3, .int .i64 x4])).run Try.prog w = .ok false w := by
  rw [eqt_scrimref13_Rect]
  congr 1
  cases hb : (r1 == x1 && r2 == x2 && r3 == x3 && r4 == x4) with
  | false => rfl
  | true =>
    simp only [Bool.and_eq_true, beq_iff_eq] at hb
    exact absurd ⟨hb.1.1.1, hb.1.1.2, hb.1.2, hb.2⟩ h
theorem ctor_ne {r0 r1 r2 r3 r4 x0 x1 x2 x3 x4 : Int} (h : NeR r1 r2 r3 r4 x1 x2 x3 x4) : ¬ (some (⟨r0, r1, r2, r3, r4⟩ : En) = some ⟨x0, x1, x2, x3, x4⟩) := by
  intro e
  injection e with e
  injection e with _ e1 e2 e3 e4
  exact h ⟨e1, e2, e3, e4⟩
/-- what the law's loop has found the same by now. -/
def smB (Y R S : List En) (k : Nat) : Bool := decide (R.length = S.length) && decide (∀ j, j < k → lastAt En.id Y (el R j).id = some (el R j))
theorem smB_zero (Y R S : List En) : smB Y R S 0 = decide (R.length = S.length) := by simp [smB]
theorem smB_next (Y R S : List En) (k : Nat) : smB Y R S (k + 1) = (smB Y R S k && decide (lastAt En.id Y (el R k).id = some (el R k))) := by
  unfold smB
  rw [Bool.and_assoc]
  congr 1
  rw [Bool.eq_iff_iff]
  simp only [decide_eq_true_eq, Bool.and_eq_true]
  constructor
  · intro h
    exact ⟨fun j hj => h j (by omega), h k (by omega)⟩
  · rintro ⟨h1, h2⟩ j hj
    rcases Nat.lt_or_ge j k with h | h
    · exact h1 j h
    · rw [show j = k by omega]; exact h2
theorem smB_all {X Y R S : List En} (hr : Is En.id X R) (hs : Is En.id Y S) : smB Y R S R.length = decide (R = S) := by
  unfold smB
  rw [Bool.eq_iff_iff]
  simp only [decide_eq_true_eq, Bool.and_eq_true]
  rw [hr.eq_iff hs]
  constructor
  · rintro ⟨h1, h2⟩
    refine ⟨h1, fun x hx => ?_⟩
    obtain ⟨k, hk, rfl⟩ := mem_el hx
    exact h2 k hk
  · rintro ⟨h1, h2⟩
    exact ⟨h1, fun j hj => h2 _ (el_mem hj)⟩
theorem blk_ne_own {w : World} {g base e s n : Nat} {t : TypeId} {cs : Array Value} {v : Value} {xs : List Value} (h : Blk w g t cs) (ho : w.ownsRow base e s v n xs) (hne : t ≠ e) : some g ≠ v.ownBlock := by
  intro q
  rcases ho.2 with ⟨rfl, _⟩ | ⟨g', c, cur, rfl, _, hh, _⟩
  · cases q
  · injection q with q
    subst q
    rw [show w.heap[g]? = _ from h] at hh
    injection hh with hh
    injection hh with _ h2 _
    exact hne h2
def mvF (Y : List En) (e : En) : Bool := mvB (lastAt En.id Y e.id) e
def htF (px py : Int) (e : En) : Bool := inR e.x e.y e.w e.h px py
theorem apart_grow {w : World} {base e2 s2 n2 : Nat} {v v' u : Value} {x2 : List Value} (hu : w.ownsRow base e2 s2 u n2 x2) (hne : v.ownBlock ≠ u.ownBlock) (hat : v'.ownBlock = v.ownBlock ∨ v'.ownBlock = some w.heap.size) : v'.ownBlock ≠ u.ownBlock := by
  rcases hat with h | h
  · rw [h]; exact hne
  · rw [h]
    intro e
    have := (hu.lt _ e.symm).2
    omega
set_option maxHeartbeats 32000000 in
set_option maxRecDepth 100000 in
theorem rectMoved_any (w : World) (v0 : Value) (h0 : TwoArg w v0) :
    Calls Try.prog 4 #[v0] w fun e w' => e = .returned (.bool true) ∧ Below w.heap.size w w' := by
  obtain ⟨A, n, c, L, B, m, d, M, px, py, rfl, ⟨hn, hnc, hcm, hat, hok1, _⟩, ⟨hm, hmd, hdm, hbt, hok2, _⟩⟩ := h0
  obtain ⟨X, hX⟩ : ∃ X, X = L.take 15 := ⟨_, rfl⟩
  obtain ⟨Y, hY⟩ : ∃ Y, Y = M.take 15 := ⟨_, rfl⟩
  have hXl : X.length ≤ 15 := by rw [hX, List.length_take]; omega
  have hYl : Y.length ≤ 15 := by rw [hY, List.length_take]; omega
  have HOK1 := Lib.hid (show ∀ e ∈ X, OkI e.id from fun e he => hok1 e (by rw [hX] at he; exact List.mem_of_mem_take he))
  have HOK2 := Lib.hid (show ∀ e ∈ Y, OkI e.id from fun e he => hok2 e (by rw [hY] at he; exact List.mem_of_mem_take he))
  obtain ⟨R, hR⟩ := snap_ex X
  obtain ⟨S, hS⟩ := snap_ex Y
  obtain ⟨g, hg⟩ : ∃ g, g = w.heap.size := ⟨_, rfl⟩
  obtain ⟨W0, hW0⟩ : ∃ W, W = w.alloc (.cells #[.slice A n c, .slice B m d, .int .i64 px, .int .i64 py] 41) := ⟨_, rfl⟩
  have hB0 : Below w.heap.size w W0 := by rw [hW0]; exact below_alloc w _
  have COwn1 : Hid (∀ W, Below W0.heap.size W0 W → Calls Try.prog 11 #[.slice A n c, .int .i64 15] W fun e w' => ∃ v u, e = .returned (.tuple #[v, u]) ∧ w'.ownsRow W.heap.size 74 5 v X.length (ecs X) ∧ w'.ownsRow W.heap.size 44 5 u X.length (ecs X) ∧ Below W.heap.size W w') := fun W hW => by
    have := own13_any A n c 15 L W hn (by omega) (by omega) ((hat.below hB0).below hW)
    rw [← hX] at this
    exact this
  have COwn2 : Hid (∀ W, Below W0.heap.size W0 W → Calls Try.prog 11 #[.slice B m d, .int .i64 15] W fun e w' => ∃ v u, e = .returned (.tuple #[v, u]) ∧ w'.ownsRow W.heap.size 74 5 v Y.length (ecs Y) ∧ w'.ownsRow W.heap.size 44 5 u Y.length (ecs Y) ∧ Below W.heap.size W w') := fun W hW => by
    have := own13_any B m d 15 M W hm (by omega) (by omega) ((hbt.below hB0).below hW)
    rw [← hY] at this
    exact this
  have K0 : Blk W0 g 41 #[.slice A n c, .slice B m d, .int .i64 px, .int .i64 py] := by rw [hW0, hg]; exact Blk.new w _ _
  have HK0 := Lib.hid K0
  have HB0 := Lib.hid hB0
  have HW0 := Lib.hid hW0
  have HG := Lib.hid hg
  have HXL := Lib.hid hXl
  have HYL := Lib.hid hYl
  have HR := Lib.hid hR
  have HS := Lib.hid hS
  have HRL := Lib.hid (is_len hR)
  have HSL := Lib.hid (is_len hS)
  obtain ⟨i0, hi, hz0, hz1, hz2⟩ := info_parts infoIntM
  clear hX hY hn hm hat hbt hok1 hok2 K0 hB0 hW0 hg hXl hYl hcm hdm hnc hmd hR hS
  obtain ⟨qx, hqx⟩ : ∃ q, q = X.length := ⟨_, rfl⟩
  obtain ⟨qy, hqy⟩ : ∃ q, q = Y.length := ⟨_, rfl⟩
  have HQX := Lib.hid hqx
  have HQY := Lib.hid hqy
  rw [← hqx] at COwn1 HXL HRL
  rw [← hqy] at COwn2 HYL HSL
  clear hqx hqy
  go_enter Try.func4, Try.ntmps4
  go_wp2_with fail
  rw [← HW0.out, ← HG.out]
  refine (awake13_any _).mono ?_
  rintro e w1' ⟨rfl, hb1⟩
  have K1 := HK0.out.below hb1
  have c2 := K1.cell 2 (v := .int .i64 px) rfl
  have c3 := K1.cell 3 (v := .int .i64 py) rfl
  go_upto_region 3 with fail
  go_big_quiet (fail)
  rename_i nq
  obtain ⟨w1, hw1⟩ : ∃ W, W = w1'.drewN nq := ⟨_, rfl⟩
  have K1 := Lib.hid (show Blk w1 g _ _ by rw [hw1]; exact K1.drewN nq)
  have HB1 := Lib.hid (show Below W0.heap.size W0 w1 by rw [hw1]; exact drewN_belowS hb1 nq)
  have c0 := K1.out.cell 0 (v := .slice A n c) rfl
  rw [← hw1]
  clear hb1 c2 c3 hw1
  go_wp2_with fail
  refine (COwn1.out _ HB1.out).mono ?_
  rintro e w2 ⟨v1, u1, rfl, hv1, hu1, hb2⟩
  obtain ⟨A5, c5, rfl, _, _, hat5⟩ := at_of_own' hv1
  obtain ⟨A6, c6, rfl, _, _, hat6⟩ := at_of_own' hu1
  have HN5 := Lib.hid (own_addr hv1)
  have HAT := Lib.hid (And.intro hat5 hat6)
  have K2 := Lib.hid (K1.out.below hb2)
  have HB2 := Lib.hid (HB1.out.trans (hb2.mono HB1.out.size))
  have c1' := K2.out.cell 1 (v := .slice B m d) rfl
  clear hv1 hu1 hb2 hat5 hat6 c0 K1 HB1
  go_wp2_with fail
  refine (COwn2.out _ HB2.out).mono ?_
  rintro e w3 ⟨v3, u3, rfl, hv3, hu3, hb3⟩
  obtain ⟨A7, c7, rfl, _, _, hat7⟩ := at_of_own' hv3
  obtain ⟨A8, c8, rfl, _, _, hat8⟩ := at_of_own' hu3
  have HN7 := Lib.hid (own_addr hv3)
  have HK3 := Lib.hid (show Rs2 w w3 A5 A6 A7 A8 X Y from ⟨HAT.out.1.below hb3, HAT.out.2.below hb3, hat7, hat8, HB0.out.trans ((HB2.out.trans (hb3.mono HB2.out.size)).mono HB0.out.size)⟩)
  clear hv3 hu3 hb3 hat7 hat8 c1' K2 HB2 HAT
  obtain ⟨gv, hgv⟩ : ∃ g, g = w3.heap.size := ⟨_, rfl⟩
  obtain ⟨W4, hW4⟩ : ∃ W, W = (w3.alloc (.cells #[] 3)).alloc (.cells #[] 3) := ⟨_, rfl⟩
  have OV := Lib.hid (show W4.ownsRow w3.heap.size 3 1 (.slice (some ⟨gv, 0, none⟩) 0 0) 0 [] by rw [hW4, hgv]; exact (own_made w3 _ rfl (Nat.le_refl _)).alloc _)
  have OU := Lib.hid (show W4.ownsRow w3.heap.size 3 1 (.slice (some ⟨gv + 1, 0, none⟩) 0 0) 0 [] by rw [hW4, hgv]; exact own_made (w3.alloc (.cells #[] 3)) _ (by simp) (by omega))
  have HBG := Lib.hid (show Below w3.heap.size w3 W4 by rw [hW4]; exact (below_alloc w3 _).alloc (by simp) _)
  have HW4 := Lib.hid hW4
  have HGV := Lib.hid hgv
  clear hW4 hgv
  go_wp2_with fail
  rw [← HW4.out, ← HGV.out]
  refine (rsnap_any A6 qx c6 X _ HQX.out (by have := HXL.out; omega) (HK3.out.a2.below HBG.out)).mono ?_
  rintro e w5 ⟨R', v5, rfl, hR', hv5, _, hb5⟩
  obtain rfl : R' = R := hR'.uniq HR.out
  obtain ⟨A9, c9, rfl, _, _, _⟩ := at_of_own' hv5
  have OV5 := Lib.hid (own_below OV.out hb5)
  have OU5 := Lib.hid (own_below OU.out hb5)
  have HB5 := Lib.hid (HBG.out.trans (hb5.mono HBG.out.size))
  clear hR' hv5 hb5 OV OU HBG
  go_wp2_with fail
  refine (rsnap_any A8 qy c8 Y _ HQY.out (by have := HYL.out; omega) (HK3.out.a4.below HB5.out)).mono ?_
  rintro e w6 ⟨S', v6, rfl, hS', hv6, _, hb6⟩
  obtain rfl : S' = S := hS'.uniq HS.out
  obtain ⟨Aa, ca, rfl, _, _, _⟩ := at_of_own' hv6
  have OV6 := Lib.hid (own_below OV5.out hb6)
  have OU6 := Lib.hid (own_below OU5.out hb6)
  have HB6 := Lib.hid (HB5.out.trans (hb6.mono HB5.out.size))
  clear hS' hv6 hb6 OV5 OU5 HB5
  go_wp2_with fail
  refine (rsnap_any A6 qx c6 X _ HQX.out (by have := HXL.out; omega) (HK3.out.a2.below HB6.out)).mono ?_
  rintro e w7 ⟨R2, v7, rfl, hR2, hv7, _, hb7⟩
  obtain rfl : R2 = R' := hR2.uniq HR.out
  obtain ⟨Ab, cb, rfl, hcb, hmb, _⟩ := at_of_own' hv7
  have OV7 := Lib.hid (own_below OV6.out hb7)
  have OU7 := Lib.hid (own_below OU6.out hb7)
  have HB7 := Lib.hid (HB6.out.trans (hb7.mono HB6.out.size))
  have OR7 := Lib.hid (own_mono hv7 HB6.out.size)
  clear hR2 hv7 hb7 OV6 OU6 HB6
  rename_i Rn Sn
  obtain ⟨q, hq⟩ : ∃ q, q = R2.length := ⟨_, rfl⟩
  obtain ⟨qs, hqs⟩ : ∃ q, q = S'.length := ⟨_, rfl⟩
  have HQ := Lib.hid hq
  have HQS := Lib.hid hqs
  have hb0 : ((q : Int) == (qs : Int)) = smB Y R2 S' 0 := by
    rw [smB_zero, hq, hqs]
    by_cases h : R2.length = S'.length
    · rw [decide_eq_true h, h]
      simp
    · rw [decide_eq_false h, beq_eq_false_iff_ne]
      omega
  rw [← hq] at OR7 HRL hcb ⊢
  rw [← hqs] at HSL ⊢
  obtain ⟨b0, hb0'⟩ : ∃ b, b = smB Y R2 S' 0 := ⟨_, rfl⟩
  rw [← hb0'] at hb0
  have HB00 := Lib.hid hb0'
  clear hq hqs hb0'
  go_wp2_with fail
  clear hb0
  go_loopw [9, 10, 11, 46] (fun v u s i wr => ∃ (k : Nat) (b : Bool), k ≤ q ∧ s = .bool b ∧ i = .int .i64 k ∧ Hid (wr.ownsRow w3.heap.size 3 1 v (idsL (R2.take k) (mvF Y)).length ((idsL (R2.take k) (mvF Y)).flatMap zc)) ∧ Hid (wr.ownsRow w3.heap.size 3 1 u (idsL (R2.take k) (htF px py)).length ((idsL (R2.take k) (htF px py)).flatMap zc)) ∧ Hid (v.ownBlock ≠ u.ownBlock) ∧ Hid (wr.ownsRow w3.heap.size 44 5 (.slice Ab q cb) q (ecs R2)) ∧ Hid (b = smB Y R2 S' k) ∧ Hid (Below w3.heap.size w3 wr)) (fun _ _ _ i _ => q - (intOf i).toNat)
  case atStart => exact ⟨0, b0, Nat.zero_le _, rfl, rfl, OV7, OU7, Lib.hid (by simp [Value.ownBlock]), OR7, HB00, HB7⟩
  case round =>
    obtain ⟨k, b, hk, rfl, rfl, hov, hou, hap, hor, hbd, hbel⟩ := hrel
    rename World => wr
    obtain ⟨AV, cV, rfl, hcV, hmV⟩ := own_slice hov.out
    obtain ⟨AU, cU, rfl, hcU, hmU⟩ := own_slice hou.out
    by_cases hlt : k < q
    · have hkR : k < R2.length := by have := HQ.out; omega
      obtain ⟨b1, o1, hA, hlb, hc0, hc1, hc2, hc3, hc4⟩ := at_en (At.own hor.out) hkR
      subst hA
      have hn1 := idsL_snoc (R2.take k) (mvF Y) (el R2 k)
      have hn2 := idsL_snoc (R2.take k) (htF px py) (el R2 k)
      rw [← take_nextE R2 k hkR] at hn1 hn2
      have hn3 := smB_next Y R2 S' k
      have hl1 := Nat.le_trans (idsL_len (R2.take k) (mvF Y)) (by rw [List.length_take]; omega : (R2.take k).length ≤ k)
      have hl2 := Nat.le_trans (idsL_len (R2.take k) (htF px py)) (by rw [List.length_take]; omega : (R2.take k).length ≤ k)
      have hq15 : q ≤ 15 := by have := HRL.out; have := HXL.out; omega
      have CG := Lib.hid (fun W (hW : Below w3.heap.size w3 W) => rget_any A8 qy c8 Y (el R2 k).id W HQY.out (by have := HYL.out; omega) (HK3.out.a4.below hW))
      rw [← hbd.out] at hn3
      generalize el R2 k = e at *
      obtain ⟨P, hP⟩ : ∃ P, P = idsL (R2.take k) (mvF Y) := ⟨_, rfl⟩
      obtain ⟨H, hH⟩ : ∃ P, P = idsL (R2.take k) (htF px py) := ⟨_, rfl⟩
      rw [← hP] at hov hn1 hl1 hcV hap ⊢
      rw [← hH] at hou hn2 hl2 hcU hap ⊢
      clear hP hH hkR hbd
      obtain ⟨x0, x1, x2, x3, x4⟩ := e
      dsimp only at hc0 hc1 hc2 hc3 hc4 hn1 hn2 hn3 CG
      obtain ⟨pl, hpl⟩ : ∃ p, p = P.length := ⟨_, rfl⟩
      obtain ⟨hl, hhl⟩ : ∃ p, p = H.length := ⟨_, rfl⟩
      have HP := Lib.hid hpl
      have HH := Lib.hid hhl
      rw [← hpl] at hov hcV hl1 hap ⊢
      rw [← hhl] at hou hcU hl2 hap ⊢
      clear hpl hhl
      rw [show mvF Y ⟨x0, x1, x2, x3, x4⟩ = mvB (lastAt En.id Y x0) ⟨x0, x1, x2, x3, x4⟩ from rfl] at hn1
      rw [show htF px py ⟨x0, x1, x2, x3, x4⟩ = inR x1 x2 x3 x4 px py from rfl] at hn2
      have CH := Lib.hid (fun W => rhas_any x1 x2 x3 x4 px py W)
      obtain ⟨ht, hht⟩ : ∃ t, t = inR x1 x2 x3 x4 px py := ⟨_, rfl⟩
      rw [← hht] at hn2 CH
      clear hht
      have hri : ∀ r, lastAt En.id Y x0 = some r → r.id = x0 := fun r h => (lastAt_some h).2
      generalize lastAt En.id Y x0 = og at *
      have HRI := Lib.hid hri
      clear hri
      rw [gotV_eq] at CG
      have HN1 := Lib.hid hn1
      have HN2 := Lib.hid hn2
      have HN3 := Lib.hid hn3
      clear hn1 hn2 hn3
      obtain ⟨W8, hW8⟩ : ∃ W, W = wr.alloc (.cells #[.int .i64 x0, .int .i64 x1, .int .i64 x2, .int .i64 x3, .int .i64 x4] 44) := ⟨_, rfl⟩
      have hbw : Below wr.heap.size wr W8 := by rw [hW8]; exact below_alloc wr _
      obtain ⟨ge, hge⟩ : ∃ g, g = wr.heap.size := ⟨_, rfl⟩
      have K8 := Lib.hid (show Blk W8 ge 44 #[.int .i64 x0, .int .i64 x1, .int .i64 x2, .int .i64 x3, .int .i64 x4] by rw [hW8, hge]; exact Blk.new wr _ _)
      have OV8 := Lib.hid (own_below hov.out hbw)
      have OU8 := Lib.hid (own_below hou.out hbw)
      have OR8 := Lib.hid (own_below hor.out hbw)
      have HB8 := Lib.hid (hbel.out.trans (hbw.mono hbel.out.size))
      have s0 := K8.out.cell 0 (v := .int .i64 x0) rfl
      have HW8 := Lib.hid hW8
      have HGE := Lib.hid hge
      clear hW8 hbw hge hov hou hor hbel
      go_upto_region 11 with fail
      rw [← HW8.out, ← HGE.out]
      clear hc0 hc1 hc2 hc3 hc4
      go_wp2_with fail
      refine (CG.out _ HB8.out).mono ?_
      rintro e9 w9 ⟨rfl, hb9⟩
      obtain ⟨W9, hW9⟩ : ∃ W, W = w9.alloc (.cells #[.int .i64 (gx og), .int .i64 (gy og), .int .i64 (gw og), .int .i64 (gh og)] 32) := ⟨_, rfl⟩
      have hbw : Below W8.heap.size W8 W9 := by rw [hW9]; exact hb9.alloc hb9.size _
      obtain ⟨gr, hgr⟩ : ∃ g, g = w9.heap.size := ⟨_, rfl⟩
      have K9 := Lib.hid (show Blk W9 gr 32 #[.int .i64 (gx og), .int .i64 (gy og), .int .i64 (gw og), .int .i64 (gh og)] by rw [hW9, hgr]; exact Blk.new w9 _ _)
      have K89 := Lib.hid (K8.out.below hbw)
      have OV9 := Lib.hid (own_below OV8.out hbw)
      have OU9 := Lib.hid (own_below OU8.out hbw)
      have OR9 := Lib.hid (own_below OR8.out hbw)
      have HB9 := Lib.hid (HB8.out.trans (hbw.mono HB8.out.size))
      have HW9 := Lib.hid hW9
      have HGR := Lib.hid hgr
      clear hW9 hbw hgr hb9 s0 K8 OV8 OU8 OR8 HB8 CG
      go_upto_region 12 with fail
      rw [← HW9.out, ← HGR.out]
      have x0c := K89.out.cell 0 (v := .int .i64 x0) rfl
      have x1c := K89.out.cell 1 (v := .int .i64 x1) rfl
      have x2c := K89.out.cell 2 (v := .int .i64 x2) rfl
      have r1c := K9.out.cell 0 (v := .int .i64 (gx og)) rfl
      have r2c := K9.out.cell 1 (v := .int .i64 (gy og)) rfl
      cases og with
      | none =>
        replace HN1 := Lib.hid (show idsL (R2.take (k + 1)) (mvF Y) = P from HN1.out.trans (List.append_nil P))
        replace HN3 := Lib.hid (show smB Y R2 S' (k + 1) = (b && false) from HN3.out)
        cases b with
        | true =>
          replace HN3 := Lib.hid (show smB Y R2 S' (k + 1) = false from HN3.out)
          cases ht with
          | true =>
            replace HN2 := Lib.hid (show idsL (R2.take (k + 1)) (htF px py) = H ++ [x0] from HN2.out)
            have OV10 := Lib.hid OV9.out
            have OU10 := Lib.hid OU9.out
            have OR10 := Lib.hid OR9.out
            have HB10 := Lib.hid HB9.out
            have KA10 := Lib.hid K89.out
            have KB10 := Lib.hid K9.out
            have HAP2 := Lib.hid hap.out
            clear hap OV9 OU9 OR9 HB9 K89 K9
            go_upto_region 14 with fail
            clear x0c x1c x2c r1c r2c
            have x1c := KA10.out.cell 1 (v := .int .i64 x1) rfl
            have x2c := KA10.out.cell 2 (v := .int .i64 x2) rfl
            have x3c := KA10.out.cell 3 (v := .int .i64 x3) rfl
            have x4c := KA10.out.cell 4 (v := .int .i64 x4) rfl
            go_wp2_with fail
            refine (CH.out _).mono ?_
            rintro e9 w11 ⟨rfl, hb11⟩
            have OV11 := Lib.hid (own_below OV10.out hb11)
            have OU11 := Lib.hid (own_below OU10.out hb11)
            have OR11 := Lib.hid (own_below OR10.out hb11)
            have HB11 := Lib.hid (HB10.out.trans (hb11.mono HB10.out.size))
            have KA11 := Lib.hid (KA10.out.below hb11)
            have KB11 := Lib.hid (KB10.out.below hb11)
            have x0c := KA11.out.cell 0 (v := .int .i64 x0) rfl
            clear hb11 OV10 OU10 OR10 HB10 KA10 KB10 x1c x2c x3c x4c
            obtain ⟨u1, w12, hrun2, hown2, hgrow2, _, hat2⟩ := run_append_own_at (P := Try.prog) (w11.alloc (.cells #[.int .i64 x0] 3)) w3.heap.size 42 42 3 i0 _ 1 8 Try.underlying42 hi hz0 hz1 hz2 rfl (by decide) _ _ _ (OU11.out.alloc (.cells #[.int .i64 x0] 3))
              ⟨w11.heap.size, 0, none⟩ 1 1 [.int .i64 x0] rfl (cells_new' _ _ _ _ rfl _ rfl) (fun u hu => zc_one x0 u hu) (by unfold maxLen; omega) (by omega) (by have := HB11.out.size; simp; omega)
            obtain ⟨AU2, cU2, rfl, hcU2, hmU2⟩ := own_slice hown2
            have OU12 := Lib.hid hown2
            have OV12 := Lib.hid ((OV11.out.alloc (.cells #[.int .i64 x0] 3)).kept hgrow2 (.inr HAP2.out))
            have OR12 := Lib.hid ((OR11.out.alloc (.cells #[.int .i64 x0] 3)).kept hgrow2 (own_ne OR11.out OU11.out (by decide)))
            have HB12 := Lib.hid ((HB11.out.alloc HB11.out.size (.cells #[.int .i64 x0] 3)).grown hgrow2 (by have := HB11.out.size; simp; omega) (fun j hj => own_from OU11.out j hj))
            have KA12 := Lib.hid ((KA11.out.alloc (.cells #[.int .i64 x0] 3)).grown hgrow2 (blk_ne_own KA11.out OU11.out (by decide)))
            have KB12 := Lib.hid ((KB11.out.alloc (.cells #[.int .i64 x0] 3)).grown hgrow2 (blk_ne_own KB11.out OU11.out (by decide)))
            have HAP3 := Lib.hid (Ne.symm (apart_grow (v := .slice AU hl cU) (OV11.out.alloc (.cells #[.int .i64 x0] 3)) (fun e => HAP2.out e.symm) hat2))
            clear hown2 hgrow2 hat2 HAP2 OV11 OU11 OR11 HB11 KA11 KB11
            go_upto_region 16 with fail
            clear x0c
            have x1c := KA12.out.cell 1 (v := .int .i64 x1) rfl
            have x2c := KA12.out.cell 2 (v := .int .i64 x2) rfl
            have x3c := KA12.out.cell 3 (v := .int .i64 x3) rfl
            have x4c := KA12.out.cell 4 (v := .int .i64 x4) rfl
            have r1c := KB12.out.cell 0 (v := .int .i64 (gx none)) rfl
            have r2c := KB12.out.cell 1 (v := .int .i64 (gy none)) rfl
            have r3c := KB12.out.cell 2 (v := .int .i64 (gw none)) rfl
            have r4c := KB12.out.cell 3 (v := .int .i64 (gh none)) rfl
            go_wp2
            go_roundw
            case rel => exact ⟨k + 1, false, by omega, rfl, by go_num, Lib.hid (by rw [HN1.out, ← HP.out]; exact OV12.out), Lib.hid (by rw [HN2.out, List.length_append, zcs_snoc, ← HH.out]; exact OU12.out), HAP3, OR12, Lib.hid (by rw [HN3.out]), HB12⟩
            case measure => simp [intOf]; omega
          | false =>
            replace HN2 := Lib.hid (show idsL (R2.take (k + 1)) (htF px py) = H from HN2.out.trans (List.append_nil H))
            have OV10 := Lib.hid OV9.out
            have OU10 := Lib.hid OU9.out
            have OR10 := Lib.hid OR9.out
            have HB10 := Lib.hid HB9.out
            have KA10 := Lib.hid K89.out
            have KB10 := Lib.hid K9.out
            have HAP2 := Lib.hid hap.out
            clear hap OV9 OU9 OR9 HB9 K89 K9
            go_upto_region 14 with fail
            clear x0c x1c x2c r1c r2c
            have x1c := KA10.out.cell 1 (v := .int .i64 x1) rfl
            have x2c := KA10.out.cell 2 (v := .int .i64 x2) rfl
            have x3c := KA10.out.cell 3 (v := .int .i64 x3) rfl
            have x4c := KA10.out.cell 4 (v := .int .i64 x4) rfl
            go_wp2_with fail
            refine (CH.out _).mono ?_
            rintro e9 w11 ⟨rfl, hb11⟩
            have OV11 := Lib.hid (own_below OV10.out hb11)
            have OU11 := Lib.hid (own_below OU10.out hb11)
            have OR11 := Lib.hid (own_below OR10.out hb11)
            have HB11 := Lib.hid (HB10.out.trans (hb11.mono HB10.out.size))
            have KA11 := Lib.hid (KA10.out.below hb11)
            have KB11 := Lib.hid (KB10.out.below hb11)
            have x0c := KA11.out.cell 0 (v := .int .i64 x0) rfl
            clear hb11 OV10 OU10 OR10 HB10 KA10 KB10 x1c x2c x3c x4c
            have OV12 := Lib.hid OV11.out
            have OU12 := Lib.hid OU11.out
            have OR12 := Lib.hid OR11.out
            have HB12 := Lib.hid HB11.out
            have KA12 := Lib.hid KA11.out
            have KB12 := Lib.hid KB11.out
            have HAP3 := Lib.hid HAP2.out
            clear HAP2 OV11 OU11 OR11 HB11 KA11 KB11
            go_upto_region 16 with fail
            clear x0c
            have x1c := KA12.out.cell 1 (v := .int .i64 x1) rfl
            have x2c := KA12.out.cell 2 (v := .int .i64 x2) rfl
            have x3c := KA12.out.cell 3 (v := .int .i64 x3) rfl
            have x4c := KA12.out.cell 4 (v := .int .i64 x4) rfl
            have r1c := KB12.out.cell 0 (v := .int .i64 (gx none)) rfl
            have r2c := KB12.out.cell 1 (v := .int .i64 (gy none)) rfl
            have r3c := KB12.out.cell 2 (v := .int .i64 (gw none)) rfl
            have r4c := KB12.out.cell 3 (v := .int .i64 (gh none)) rfl
            go_wp2
            go_roundw
            case rel => exact ⟨k + 1, false, by omega, rfl, by go_num, Lib.hid (by rw [HN1.out, ← HP.out]; exact OV12.out), Lib.hid (by rw [HN2.out, ← HH.out]; exact OU12.out), HAP3, OR12, Lib.hid (by rw [HN3.out]), HB12⟩
            case measure => simp [intOf]; omega
        | false =>
          replace HN3 := Lib.hid (show smB Y R2 S' (k + 1) = false from HN3.out)
          cases ht with
          | true =>
            replace HN2 := Lib.hid (show idsL (R2.take (k + 1)) (htF px py) = H ++ [x0] from HN2.out)
            have OV10 := Lib.hid OV9.out
            have OU10 := Lib.hid OU9.out
            have OR10 := Lib.hid OR9.out
            have HB10 := Lib.hid HB9.out
            have KA10 := Lib.hid K89.out
            have KB10 := Lib.hid K9.out
            have HAP2 := Lib.hid hap.out
            clear hap OV9 OU9 OR9 HB9 K89 K9
            go_upto_region 14 with fail
            clear x0c x1c x2c r1c r2c
            have x1c := KA10.out.cell 1 (v := .int .i64 x1) rfl
            have x2c := KA10.out.cell 2 (v := .int .i64 x2) rfl
            have x3c := KA10.out.cell 3 (v := .int .i64 x3) rfl
            have x4c := KA10.out.cell 4 (v := .int .i64 x4) rfl
            go_wp2_with fail
            refine (CH.out _).mono ?_
            rintro e9 w11 ⟨rfl, hb11⟩
            have OV11 := Lib.hid (own_below OV10.out hb11)
            have OU11 := Lib.hid (own_below OU10.out hb11)
            have OR11 := Lib.hid (own_below OR10.out hb11)
            have HB11 := Lib.hid (HB10.out.trans (hb11.mono HB10.out.size))
            have KA11 := Lib.hid (KA10.out.below hb11)
            have KB11 := Lib.hid (KB10.out.below hb11)
            have x0c := KA11.out.cell 0 (v := .int .i64 x0) rfl
            clear hb11 OV10 OU10 OR10 HB10 KA10 KB10 x1c x2c x3c x4c
            obtain ⟨u1, w12, hrun2, hown2, hgrow2, _, hat2⟩ := run_append_own_at (P := Try.prog) (w11.alloc (.cells #[.int .i64 x0] 3)) w3.heap.size 42 42 3 i0 _ 1 8 Try.underlying42 hi hz0 hz1 hz2 rfl (by decide) _ _ _ (OU11.out.alloc (.cells #[.int .i64 x0] 3))
              ⟨w11.heap.size, 0, none⟩ 1 1 [.int .i64 x0] rfl (cells_new' _ _ _ _ rfl _ rfl) (fun u hu => zc_one x0 u hu) (by unfold maxLen; omega) (by omega) (by have := HB11.out.size; simp; omega)
            obtain ⟨AU2, cU2, rfl, hcU2, hmU2⟩ := own_slice hown2
            have OU12 := Lib.hid hown2
            have OV12 := Lib.hid ((OV11.out.alloc (.cells #[.int .i64 x0] 3)).kept hgrow2 (.inr HAP2.out))
            have OR12 := Lib.hid ((OR11.out.alloc (.cells #[.int .i64 x0] 3)).kept hgrow2 (own_ne OR11.out OU11.out (by decide)))
            have HB12 := Lib.hid ((HB11.out.alloc HB11.out.size (.cells #[.int .i64 x0] 3)).grown hgrow2 (by have := HB11.out.size; simp; omega) (fun j hj => own_from OU11.out j hj))
            have KA12 := Lib.hid ((KA11.out.alloc (.cells #[.int .i64 x0] 3)).grown hgrow2 (blk_ne_own KA11.out OU11.out (by decide)))
            have KB12 := Lib.hid ((KB11.out.alloc (.cells #[.int .i64 x0] 3)).grown hgrow2 (blk_ne_own KB11.out OU11.out (by decide)))
            have HAP3 := Lib.hid (Ne.symm (apart_grow (v := .slice AU hl cU) (OV11.out.alloc (.cells #[.int .i64 x0] 3)) (fun e => HAP2.out e.symm) hat2))
            clear hown2 hgrow2 hat2 HAP2 OV11 OU11 OR11 HB11 KA11 KB11
            go_upto_region 16 with fail
            clear x0c
            have x1c := KA12.out.cell 1 (v := .int .i64 x1) rfl
            have x2c := KA12.out.cell 2 (v := .int .i64 x2) rfl
            have x3c := KA12.out.cell 3 (v := .int .i64 x3) rfl
            have x4c := KA12.out.cell 4 (v := .int .i64 x4) rfl
            have r1c := KB12.out.cell 0 (v := .int .i64 (gx none)) rfl
            have r2c := KB12.out.cell 1 (v := .int .i64 (gy none)) rfl
            have r3c := KB12.out.cell 2 (v := .int .i64 (gw none)) rfl
            have r4c := KB12.out.cell 3 (v := .int .i64 (gh none)) rfl
            go_wp2
            go_roundw
            case rel => exact ⟨k + 1, false, by omega, rfl, by go_num, Lib.hid (by rw [HN1.out, ← HP.out]; exact OV12.out), Lib.hid (by rw [HN2.out, List.length_append, zcs_snoc, ← HH.out]; exact OU12.out), HAP3, OR12, Lib.hid (by rw [HN3.out]), HB12⟩
            case measure => simp [intOf]; omega
          | false =>
            replace HN2 := Lib.hid (show idsL (R2.take (k + 1)) (htF px py) = H from HN2.out.trans (List.append_nil H))
            have OV10 := Lib.hid OV9.out
            have OU10 := Lib.hid OU9.out
            have OR10 := Lib.hid OR9.out
            have HB10 := Lib.hid HB9.out
            have KA10 := Lib.hid K89.out
            have KB10 := Lib.hid K9.out
            have HAP2 := Lib.hid hap.out
            clear hap OV9 OU9 OR9 HB9 K89 K9
            go_upto_region 14 with fail
            clear x0c x1c x2c r1c r2c
            have x1c := KA10.out.cell 1 (v := .int .i64 x1) rfl
            have x2c := KA10.out.cell 2 (v := .int .i64 x2) rfl
            have x3c := KA10.out.cell 3 (v := .int .i64 x3) rfl
            have x4c := KA10.out.cell 4 (v := .int .i64 x4) rfl
            go_wp2_with fail
            refine (CH.out _).mono ?_
            rintro e9 w11 ⟨rfl, hb11⟩
            have OV11 := Lib.hid (own_below OV10.out hb11)
            have OU11 := Lib.hid (own_below OU10.out hb11)
            have OR11 := Lib.hid (own_below OR10.out hb11)
            have HB11 := Lib.hid (HB10.out.trans (hb11.mono HB10.out.size))
            have KA11 := Lib.hid (KA10.out.below hb11)
            have KB11 := Lib.hid (KB10.out.below hb11)
            have x0c := KA11.out.cell 0 (v := .int .i64 x0) rfl
            clear hb11 OV10 OU10 OR10 HB10 KA10 KB10 x1c x2c x3c x4c
            have OV12 := Lib.hid OV11.out
            have OU12 := Lib.hid OU11.out
            have OR12 := Lib.hid OR11.out
            have HB12 := Lib.hid HB11.out
            have KA12 := Lib.hid KA11.out
            have KB12 := Lib.hid KB11.out
            have HAP3 := Lib.hid HAP2.out
            clear HAP2 OV11 OU11 OR11 HB11 KA11 KB11
            go_upto_region 16 with fail
            clear x0c
            have x1c := KA12.out.cell 1 (v := .int .i64 x1) rfl
            have x2c := KA12.out.cell 2 (v := .int .i64 x2) rfl
            have x3c := KA12.out.cell 3 (v := .int .i64 x3) rfl
            have x4c := KA12.out.cell 4 (v := .int .i64 x4) rfl
            have r1c := KB12.out.cell 0 (v := .int .i64 (gx none)) rfl
            have r2c := KB12.out.cell 1 (v := .int .i64 (gy none)) rfl
            have r3c := KB12.out.cell 2 (v := .int .i64 (gw none)) rfl
            have r4c := KB12.out.cell 3 (v := .int .i64 (gh none)) rfl
            go_wp2
            go_roundw
            case rel => exact ⟨k + 1, false, by omega, rfl, by go_num, Lib.hid (by rw [HN1.out, ← HP.out]; exact OV12.out), Lib.hid (by rw [HN2.out, ← HH.out]; exact OU12.out), HAP3, OR12, Lib.hid (by rw [HN3.out]), HB12⟩
            case measure => simp [intOf]; omega
      | some r =>
        obtain ⟨r0, r1, r2, r3, r4⟩ := r
        replace r1c : W9.cell? ⟨gr, 0, none⟩ = some (.int .i64 r1) := r1c
        replace r2c : W9.cell? ⟨gr, 1, none⟩ = some (.int .i64 r2) := r2c
        by_cases hx : r1 = x1
        · subst hx
          by_cases hy : r2 = x2
          · subst hy
            have hm : mvB (some ⟨r0, r1, r2, r3, r4⟩) ⟨x0, r1, r2, x3, x4⟩ = false := by simp [mvB]
            have hn1 := HN1.out
            rw [hm] at hn1
            replace HN1 := Lib.hid (show idsL (R2.take (k + 1)) (mvF Y) = P from hn1.trans (List.append_nil P))
            clear hm hn1
            by_cases hwh : r3 = x3 ∧ r4 = x4
            · obtain ⟨rfl, rfl⟩ := hwh
              have hid : r0 = x0 := HRI.out _ rfl
              subst hid
              replace HN3 := Lib.hid (show smB Y R2 S' (k + 1) = (b && true) by have := HN3.out; rw [decide_eq_true rfl] at this; exact this)
              cases b with
              | true =>
                replace HN3 := Lib.hid (show smB Y R2 S' (k + 1) = true from HN3.out)
                cases ht with
                | true =>
                  replace HN2 := Lib.hid (show idsL (R2.take (k + 1)) (htF px py) = H ++ [r0] from HN2.out)
                  have OV10 := Lib.hid OV9.out
                  have OU10 := Lib.hid OU9.out
                  have OR10 := Lib.hid OR9.out
                  have HB10 := Lib.hid HB9.out
                  have KA10 := Lib.hid K89.out
                  have KB10 := Lib.hid K9.out
                  have HAP2 := Lib.hid hap.out
                  clear hap OV9 OU9 OR9 HB9 K89 K9
                  go_upto_region 14 with fail
                  clear x0c x1c x2c r1c r2c
                  have x1c := KA10.out.cell 1 (v := .int .i64 r1) rfl
                  have x2c := KA10.out.cell 2 (v := .int .i64 r2) rfl
                  have x3c := KA10.out.cell 3 (v := .int .i64 r3) rfl
                  have x4c := KA10.out.cell 4 (v := .int .i64 r4) rfl
                  go_wp2_with fail
                  refine (CH.out _).mono ?_
                  rintro e9 w11 ⟨rfl, hb11⟩
                  have OV11 := Lib.hid (own_below OV10.out hb11)
                  have OU11 := Lib.hid (own_below OU10.out hb11)
                  have OR11 := Lib.hid (own_below OR10.out hb11)
                  have HB11 := Lib.hid (HB10.out.trans (hb11.mono HB10.out.size))
                  have KA11 := Lib.hid (KA10.out.below hb11)
                  have KB11 := Lib.hid (KB10.out.below hb11)
                  have x0c := KA11.out.cell 0 (v := .int .i64 r0) rfl
                  clear hb11 OV10 OU10 OR10 HB10 KA10 KB10 x1c x2c x3c x4c
                  obtain ⟨u1, w12, hrun2, hown2, hgrow2, _, hat2⟩ := run_append_own_at (P := Try.prog) (w11.alloc (.cells #[.int .i64 r0] 3)) w3.heap.size 42 42 3 i0 _ 1 8 Try.underlying42 hi hz0 hz1 hz2 rfl (by decide) _ _ _ (OU11.out.alloc (.cells #[.int .i64 r0] 3))
                    ⟨w11.heap.size, 0, none⟩ 1 1 [.int .i64 r0] rfl (cells_new' _ _ _ _ rfl _ rfl) (fun u hu => zc_one r0 u hu) (by unfold maxLen; omega) (by omega) (by have := HB11.out.size; simp; omega)
                  obtain ⟨AU2, cU2, rfl, hcU2, hmU2⟩ := own_slice hown2
                  have OU12 := Lib.hid hown2
                  have OV12 := Lib.hid ((OV11.out.alloc (.cells #[.int .i64 r0] 3)).kept hgrow2 (.inr HAP2.out))
                  have OR12 := Lib.hid ((OR11.out.alloc (.cells #[.int .i64 r0] 3)).kept hgrow2 (own_ne OR11.out OU11.out (by decide)))
                  have HB12 := Lib.hid ((HB11.out.alloc HB11.out.size (.cells #[.int .i64 r0] 3)).grown hgrow2 (by have := HB11.out.size; simp; omega) (fun j hj => own_from OU11.out j hj))
                  have KA12 := Lib.hid ((KA11.out.alloc (.cells #[.int .i64 r0] 3)).grown hgrow2 (blk_ne_own KA11.out OU11.out (by decide)))
                  have KB12 := Lib.hid ((KB11.out.alloc (.cells #[.int .i64 r0] 3)).grown hgrow2 (blk_ne_own KB11.out OU11.out (by decide)))
                  have HAP3 := Lib.hid (Ne.symm (apart_grow (v := .slice AU hl cU) (OV11.out.alloc (.cells #[.int .i64 r0] 3)) (fun e => HAP2.out e.symm) hat2))
                  clear hown2 hgrow2 hat2 HAP2 OV11 OU11 OR11 HB11 KA11 KB11
                  go_upto_region 16 with fail
                  clear x0c
                  have x1c := KA12.out.cell 1 (v := .int .i64 r1) rfl
                  have x2c := KA12.out.cell 2 (v := .int .i64 r2) rfl
                  have x3c := KA12.out.cell 3 (v := .int .i64 r3) rfl
                  have x4c := KA12.out.cell 4 (v := .int .i64 r4) rfl
                  have r1c := KB12.out.cell 0 (v := .int .i64 r1) rfl
                  have r2c := KB12.out.cell 1 (v := .int .i64 r2) rfl
                  have r3c := KB12.out.cell 2 (v := .int .i64 r3) rfl
                  have r4c := KB12.out.cell 3 (v := .int .i64 r4) rfl
                  have hrunE := eqR_self r1 r2 r3 r4
                  go_wp2
                  go_roundw
                  case rel => exact ⟨k + 1, true, by omega, rfl, by go_num, Lib.hid (by rw [HN1.out, ← HP.out]; exact OV12.out), Lib.hid (by rw [HN2.out, List.length_append, zcs_snoc, ← HH.out]; exact OU12.out), HAP3, OR12, Lib.hid (by rw [HN3.out]), HB12⟩
                  case measure => simp [intOf]; omega
                | false =>
                  replace HN2 := Lib.hid (show idsL (R2.take (k + 1)) (htF px py) = H from HN2.out.trans (List.append_nil H))
                  have OV10 := Lib.hid OV9.out
                  have OU10 := Lib.hid OU9.out
                  have OR10 := Lib.hid OR9.out
                  have HB10 := Lib.hid HB9.out
                  have KA10 := Lib.hid K89.out
                  have KB10 := Lib.hid K9.out
                  have HAP2 := Lib.hid hap.out
                  clear hap OV9 OU9 OR9 HB9 K89 K9
                  go_upto_region 14 with fail
                  clear x0c x1c x2c r1c r2c
                  have x1c := KA10.out.cell 1 (v := .int .i64 r1) rfl
                  have x2c := KA10.out.cell 2 (v := .int .i64 r2) rfl
                  have x3c := KA10.out.cell 3 (v := .int .i64 r3) rfl
                  have x4c := KA10.out.cell 4 (v := .int .i64 r4) rfl
                  go_wp2_with fail
                  refine (CH.out _).mono ?_
                  rintro e9 w11 ⟨rfl, hb11⟩
                  have OV11 := Lib.hid (own_below OV10.out hb11)
                  have OU11 := Lib.hid (own_below OU10.out hb11)
                  have OR11 := Lib.hid (own_below OR10.out hb11)
                  have HB11 := Lib.hid (HB10.out.trans (hb11.mono HB10.out.size))
                  have KA11 := Lib.hid (KA10.out.below hb11)
                  have KB11 := Lib.hid (KB10.out.below hb11)
                  have x0c := KA11.out.cell 0 (v := .int .i64 r0) rfl
                  clear hb11 OV10 OU10 OR10 HB10 KA10 KB10 x1c x2c x3c x4c
                  have OV12 := Lib.hid OV11.out
                  have OU12 := Lib.hid OU11.out
                  have OR12 := Lib.hid OR11.out
                  have HB12 := Lib.hid HB11.out
                  have KA12 := Lib.hid KA11.out
                  have KB12 := Lib.hid KB11.out
                  have HAP3 := Lib.hid HAP2.out
                  clear HAP2 OV11 OU11 OR11 HB11 KA11 KB11
                  go_upto_region 16 with fail
                  clear x0c
                  have x1c := KA12.out.cell 1 (v := .int .i64 r1) rfl
                  have x2c := KA12.out.cell 2 (v := .int .i64 r2) rfl
                  have x3c := KA12.out.cell 3 (v := .int .i64 r3) rfl
                  have x4c := KA12.out.cell 4 (v := .int .i64 r4) rfl
                  have r1c := KB12.out.cell 0 (v := .int .i64 r1) rfl
                  have r2c := KB12.out.cell 1 (v := .int .i64 r2) rfl
                  have r3c := KB12.out.cell 2 (v := .int .i64 r3) rfl
                  have r4c := KB12.out.cell 3 (v := .int .i64 r4) rfl
                  have hrunE := eqR_self r1 r2 r3 r4
                  go_wp2
                  go_roundw
                  case rel => exact ⟨k + 1, true, by omega, rfl, by go_num, Lib.hid (by rw [HN1.out, ← HP.out]; exact OV12.out), Lib.hid (by rw [HN2.out, ← HH.out]; exact OU12.out), HAP3, OR12, Lib.hid (by rw [HN3.out]), HB12⟩
                  case measure => simp [intOf]; omega
              | false =>
                replace HN3 := Lib.hid (show smB Y R2 S' (k + 1) = false from HN3.out)
                cases ht with
                | true =>
                  replace HN2 := Lib.hid (show idsL (R2.take (k + 1)) (htF px py) = H ++ [r0] from HN2.out)
                  have OV10 := Lib.hid OV9.out
                  have OU10 := Lib.hid OU9.out
                  have OR10 := Lib.hid OR9.out
                  have HB10 := Lib.hid HB9.out
                  have KA10 := Lib.hid K89.out
                  have KB10 := Lib.hid K9.out
                  have HAP2 := Lib.hid hap.out
                  clear hap OV9 OU9 OR9 HB9 K89 K9
                  go_upto_region 14 with fail
                  clear x0c x1c x2c r1c r2c
                  have x1c := KA10.out.cell 1 (v := .int .i64 r1) rfl
                  have x2c := KA10.out.cell 2 (v := .int .i64 r2) rfl
                  have x3c := KA10.out.cell 3 (v := .int .i64 r3) rfl
                  have x4c := KA10.out.cell 4 (v := .int .i64 r4) rfl
                  go_wp2_with fail
                  refine (CH.out _).mono ?_
                  rintro e9 w11 ⟨rfl, hb11⟩
                  have OV11 := Lib.hid (own_below OV10.out hb11)
                  have OU11 := Lib.hid (own_below OU10.out hb11)
                  have OR11 := Lib.hid (own_below OR10.out hb11)
                  have HB11 := Lib.hid (HB10.out.trans (hb11.mono HB10.out.size))
                  have KA11 := Lib.hid (KA10.out.below hb11)
                  have KB11 := Lib.hid (KB10.out.below hb11)
                  have x0c := KA11.out.cell 0 (v := .int .i64 r0) rfl
                  clear hb11 OV10 OU10 OR10 HB10 KA10 KB10 x1c x2c x3c x4c
                  obtain ⟨u1, w12, hrun2, hown2, hgrow2, _, hat2⟩ := run_append_own_at (P := Try.prog) (w11.alloc (.cells #[.int .i64 r0] 3)) w3.heap.size 42 42 3 i0 _ 1 8 Try.underlying42 hi hz0 hz1 hz2 rfl (by decide) _ _ _ (OU11.out.alloc (.cells #[.int .i64 r0] 3))
                    ⟨w11.heap.size, 0, none⟩ 1 1 [.int .i64 r0] rfl (cells_new' _ _ _ _ rfl _ rfl) (fun u hu => zc_one r0 u hu) (by unfold maxLen; omega) (by omega) (by have := HB11.out.size; simp; omega)
                  obtain ⟨AU2, cU2, rfl, hcU2, hmU2⟩ := own_slice hown2
                  have OU12 := Lib.hid hown2
                  have OV12 := Lib.hid ((OV11.out.alloc (.cells #[.int .i64 r0] 3)).kept hgrow2 (.inr HAP2.out))
                  have OR12 := Lib.hid ((OR11.out.alloc (.cells #[.int .i64 r0] 3)).kept hgrow2 (own_ne OR11.out OU11.out (by decide)))
                  have HB12 := Lib.hid ((HB11.out.alloc HB11.out.size (.cells #[.int .i64 r0] 3)).grown hgrow2 (by have := HB11.out.size; simp; omega) (fun j hj => own_from OU11.out j hj))
                  have KA12 := Lib.hid ((KA11.out.alloc (.cells #[.int .i64 r0] 3)).grown hgrow2 (blk_ne_own KA11.out OU11.out (by decide)))
                  have KB12 := Lib.hid ((KB11.out.alloc (.cells #[.int .i64 r0] 3)).grown hgrow2 (blk_ne_own KB11.out OU11.out (by decide)))
                  have HAP3 := Lib.hid (Ne.symm (apart_grow (v := .slice AU hl cU) (OV11.out.alloc (.cells #[.int .i64 r0] 3)) (fun e => HAP2.out e.symm) hat2))
                  clear hown2 hgrow2 hat2 HAP2 OV11 OU11 OR11 HB11 KA11 KB11
                  go_upto_region 16 with fail
                  clear x0c
                  have x1c := KA12.out.cell 1 (v := .int .i64 r1) rfl
                  have x2c := KA12.out.cell 2 (v := .int .i64 r2) rfl
                  have x3c := KA12.out.cell 3 (v := .int .i64 r3) rfl
                  have x4c := KA12.out.cell 4 (v := .int .i64 r4) rfl
                  have r1c := KB12.out.cell 0 (v := .int .i64 r1) rfl
                  have r2c := KB12.out.cell 1 (v := .int .i64 r2) rfl
                  have r3c := KB12.out.cell 2 (v := .int .i64 r3) rfl
                  have r4c := KB12.out.cell 3 (v := .int .i64 r4) rfl
                  have hrunE := eqR_self r1 r2 r3 r4
                  go_wp2
                  go_roundw
                  case rel => exact ⟨k + 1, false, by omega, rfl, by go_num, Lib.hid (by rw [HN1.out, ← HP.out]; exact OV12.out), Lib.hid (by rw [HN2.out, List.length_append, zcs_snoc, ← HH.out]; exact OU12.out), HAP3, OR12, Lib.hid (by rw [HN3.out]), HB12⟩
                  case measure => simp [intOf]; omega
                | false =>
                  replace HN2 := Lib.hid (show idsL (R2.take (k + 1)) (htF px py) = H from HN2.out.trans (List.append_nil H))
                  have OV10 := Lib.hid OV9.out
                  have OU10 := Lib.hid OU9.out
                  have OR10 := Lib.hid OR9.out
                  have HB10 := Lib.hid HB9.out
                  have KA10 := Lib.hid K89.out
                  have KB10 := Lib.hid K9.out
                  have HAP2 := Lib.hid hap.out
                  clear hap OV9 OU9 OR9 HB9 K89 K9
                  go_upto_region 14 with fail
                  clear x0c x1c x2c r1c r2c
                  have x1c := KA10.out.cell 1 (v := .int .i64 r1) rfl
                  have x2c := KA10.out.cell 2 (v := .int .i64 r2) rfl
                  have x3c := KA10.out.cell 3 (v := .int .i64 r3) rfl
                  have x4c := KA10.out.cell 4 (v := .int .i64 r4) rfl
                  go_wp2_with fail
                  refine (CH.out _).mono ?_
                  rintro e9 w11 ⟨rfl, hb11⟩
                  have OV11 := Lib.hid (own_below OV10.out hb11)
                  have OU11 := Lib.hid (own_below OU10.out hb11)
                  have OR11 := Lib.hid (own_below OR10.out hb11)
                  have HB11 := Lib.hid (HB10.out.trans (hb11.mono HB10.out.size))
                  have KA11 := Lib.hid (KA10.out.below hb11)
                  have KB11 := Lib.hid (KB10.out.below hb11)
                  have x0c := KA11.out.cell 0 (v := .int .i64 r0) rfl
                  clear hb11 OV10 OU10 OR10 HB10 KA10 KB10 x1c x2c x3c x4c
                  have OV12 := Lib.hid OV11.out
                  have OU12 := Lib.hid OU11.out
                  have OR12 := Lib.hid OR11.out
                  have HB12 := Lib.hid HB11.out
                  have KA12 := Lib.hid KA11.out
                  have KB12 := Lib.hid KB11.out
                  have HAP3 := Lib.hid HAP2.out
                  clear HAP2 OV11 OU11 OR11 HB11 KA11 KB11
                  go_upto_region 16 with fail
                  clear x0c
                  have x1c := KA12.out.cell 1 (v := .int .i64 r1) rfl
                  have x2c := KA12.out.cell 2 (v := .int .i64 r2) rfl
                  have x3c := KA12.out.cell 3 (v := .int .i64 r3) rfl
                  have x4c := KA12.out.cell 4 (v := .int .i64 r4) rfl
                  have r1c := KB12.out.cell 0 (v := .int .i64 r1) rfl
                  have r2c := KB12.out.cell 1 (v := .int .i64 r2) rfl
                  have r3c := KB12.out.cell 2 (v := .int .i64 r3) rfl
                  have r4c := KB12.out.cell 3 (v := .int .i64 r4) rfl
                  have hrunE := eqR_self r1 r2 r3 r4
                  go_wp2
                  go_roundw
                  case rel => exact ⟨k + 1, false, by omega, rfl, by go_num, Lib.hid (by rw [HN1.out, ← HP.out]; exact OV12.out), Lib.hid (by rw [HN2.out, ← HH.out]; exact OU12.out), HAP3, OR12, Lib.hid (by rw [HN3.out]), HB12⟩
                  case measure => simp [intOf]; omega
            · have HNE : Hid (NeR r1 r2 r3 r4 r1 r2 x3 x4) := Lib.hid (fun h => hwh ⟨h.2.2.1, h.2.2.2⟩)
              replace HN3 := Lib.hid (show smB Y R2 S' (k + 1) = (b && false) by have := HN3.out; rw [decide_eq_false (ctor_ne HNE.out)] at this; exact this)
              clear hwh
              cases b with
              | true =>
                replace HN3 := Lib.hid (show smB Y R2 S' (k + 1) = false from HN3.out)
                cases ht with
                | true =>
                  replace HN2 := Lib.hid (show idsL (R2.take (k + 1)) (htF px py) = H ++ [x0] from HN2.out)
                  have OV10 := Lib.hid OV9.out
                  have OU10 := Lib.hid OU9.out
                  have OR10 := Lib.hid OR9.out
                  have HB10 := Lib.hid HB9.out
                  have KA10 := Lib.hid K89.out
                  have KB10 := Lib.hid K9.out
                  have HAP2 := Lib.hid hap.out
                  clear hap OV9 OU9 OR9 HB9 K89 K9
                  go_upto_region 14 with fail
                  clear x0c x1c x2c r1c r2c
                  have x1c := KA10.out.cell 1 (v := .int .i64 r1) rfl
                  have x2c := KA10.out.cell 2 (v := .int .i64 r2) rfl
                  have x3c := KA10.out.cell 3 (v := .int .i64 x3) rfl
                  have x4c := KA10.out.cell 4 (v := .int .i64 x4) rfl
                  go_wp2_with fail
                  refine (CH.out _).mono ?_
                  rintro e9 w11 ⟨rfl, hb11⟩
                  have OV11 := Lib.hid (own_below OV10.out hb11)
                  have OU11 := Lib.hid (own_below OU10.out hb11)
                  have OR11 := Lib.hid (own_below OR10.out hb11)
                  have HB11 := Lib.hid (HB10.out.trans (hb11.mono HB10.out.size))
                  have KA11 := Lib.hid (KA10.out.below hb11)
                  have KB11 := Lib.hid (KB10.out.below hb11)
                  have x0c := KA11.out.cell 0 (v := .int .i64 x0) rfl
                  clear hb11 OV10 OU10 OR10 HB10 KA10 KB10 x1c x2c x3c x4c
                  obtain ⟨u1, w12, hrun2, hown2, hgrow2, _, hat2⟩ := run_append_own_at (P := Try.prog) (w11.alloc (.cells #[.int .i64 x0] 3)) w3.heap.size 42 42 3 i0 _ 1 8 Try.underlying42 hi hz0 hz1 hz2 rfl (by decide) _ _ _ (OU11.out.alloc (.cells #[.int .i64 x0] 3))
                    ⟨w11.heap.size, 0, none⟩ 1 1 [.int .i64 x0] rfl (cells_new' _ _ _ _ rfl _ rfl) (fun u hu => zc_one x0 u hu) (by unfold maxLen; omega) (by omega) (by have := HB11.out.size; simp; omega)
                  obtain ⟨AU2, cU2, rfl, hcU2, hmU2⟩ := own_slice hown2
                  have OU12 := Lib.hid hown2
                  have OV12 := Lib.hid ((OV11.out.alloc (.cells #[.int .i64 x0] 3)).kept hgrow2 (.inr HAP2.out))
                  have OR12 := Lib.hid ((OR11.out.alloc (.cells #[.int .i64 x0] 3)).kept hgrow2 (own_ne OR11.out OU11.out (by decide)))
                  have HB12 := Lib.hid ((HB11.out.alloc HB11.out.size (.cells #[.int .i64 x0] 3)).grown hgrow2 (by have := HB11.out.size; simp; omega) (fun j hj => own_from OU11.out j hj))
                  have KA12 := Lib.hid ((KA11.out.alloc (.cells #[.int .i64 x0] 3)).grown hgrow2 (blk_ne_own KA11.out OU11.out (by decide)))
                  have KB12 := Lib.hid ((KB11.out.alloc (.cells #[.int .i64 x0] 3)).grown hgrow2 (blk_ne_own KB11.out OU11.out (by decide)))
                  have HAP3 := Lib.hid (Ne.symm (apart_grow (v := .slice AU hl cU) (OV11.out.alloc (.cells #[.int .i64 x0] 3)) (fun e => HAP2.out e.symm) hat2))
                  clear hown2 hgrow2 hat2 HAP2 OV11 OU11 OR11 HB11 KA11 KB11
                  go_upto_region 16 with fail
                  clear x0c
                  have x1c := KA12.out.cell 1 (v := .int .i64 r1) rfl
                  have x2c := KA12.out.cell 2 (v := .int .i64 r2) rfl
                  have x3c := KA12.out.cell 3 (v := .int .i64 x3) rfl
                  have x4c := KA12.out.cell 4 (v := .int .i64 x4) rfl
                  have r1c := KB12.out.cell 0 (v := .int .i64 r1) rfl
                  have r2c := KB12.out.cell 1 (v := .int .i64 r2) rfl
                  have r3c := KB12.out.cell 2 (v := .int .i64 r3) rfl
                  have r4c := KB12.out.cell 3 (v := .int .i64 r4) rfl
                  have hrunE := eqR_ne r1 r2 x3 x4 r1 r2 r3 r4 HNE.out
                  go_wp2
                  go_roundw
                  case rel => exact ⟨k + 1, false, by omega, rfl, by go_num, Lib.hid (by rw [HN1.out, ← HP.out]; exact OV12.out), Lib.hid (by rw [HN2.out, List.length_append, zcs_snoc, ← HH.out]; exact OU12.out), HAP3, OR12, Lib.hid (by rw [HN3.out]), HB12⟩
                  case measure => simp [intOf]; omega
                | false =>
                  replace HN2 := Lib.hid (show idsL (R2.take (k + 1)) (htF px py) = H from HN2.out.trans (List.append_nil H))
                  have OV10 := Lib.hid OV9.out
                  have OU10 := Lib.hid OU9.out
                  have OR10 := Lib.hid OR9.out
                  have HB10 := Lib.hid HB9.out
                  have KA10 := Lib.hid K89.out
                  have KB10 := Lib.hid K9.out
                  have HAP2 := Lib.hid hap.out
                  clear hap OV9 OU9 OR9 HB9 K89 K9
                  go_upto_region 14 with fail
                  clear x0c x1c x2c r1c r2c
                  have x1c := KA10.out.cell 1 (v := .int .i64 r1) rfl
                  have x2c := KA10.out.cell 2 (v := .int .i64 r2) rfl
                  have x3c := KA10.out.cell 3 (v := .int .i64 x3) rfl
                  have x4c := KA10.out.cell 4 (v := .int .i64 x4) rfl
                  go_wp2_with fail
                  refine (CH.out _).mono ?_
                  rintro e9 w11 ⟨rfl, hb11⟩
                  have OV11 := Lib.hid (own_below OV10.out hb11)
                  have OU11 := Lib.hid (own_below OU10.out hb11)
                  have OR11 := Lib.hid (own_below OR10.out hb11)
                  have HB11 := Lib.hid (HB10.out.trans (hb11.mono HB10.out.size))
                  have KA11 := Lib.hid (KA10.out.below hb11)
                  have KB11 := Lib.hid (KB10.out.below hb11)
                  have x0c := KA11.out.cell 0 (v := .int .i64 x0) rfl
                  clear hb11 OV10 OU10 OR10 HB10 KA10 KB10 x1c x2c x3c x4c
                  have OV12 := Lib.hid OV11.out
                  have OU12 := Lib.hid OU11.out
                  have OR12 := Lib.hid OR11.out
                  have HB12 := Lib.hid HB11.out
                  have KA12 := Lib.hid KA11.out
                  have KB12 := Lib.hid KB11.out
                  have HAP3 := Lib.hid HAP2.out
                  clear HAP2 OV11 OU11 OR11 HB11 KA11 KB11
                  go_upto_region 16 with fail
                  clear x0c
                  have x1c := KA12.out.cell 1 (v := .int .i64 r1) rfl
                  have x2c := KA12.out.cell 2 (v := .int .i64 r2) rfl
                  have x3c := KA12.out.cell 3 (v := .int .i64 x3) rfl
                  have x4c := KA12.out.cell 4 (v := .int .i64 x4) rfl
                  have r1c := KB12.out.cell 0 (v := .int .i64 r1) rfl
                  have r2c := KB12.out.cell 1 (v := .int .i64 r2) rfl
                  have r3c := KB12.out.cell 2 (v := .int .i64 r3) rfl
                  have r4c := KB12.out.cell 3 (v := .int .i64 r4) rfl
                  have hrunE := eqR_ne r1 r2 x3 x4 r1 r2 r3 r4 HNE.out
                  go_wp2
                  go_roundw
                  case rel => exact ⟨k + 1, false, by omega, rfl, by go_num, Lib.hid (by rw [HN1.out, ← HP.out]; exact OV12.out), Lib.hid (by rw [HN2.out, ← HH.out]; exact OU12.out), HAP3, OR12, Lib.hid (by rw [HN3.out]), HB12⟩
                  case measure => simp [intOf]; omega
              | false =>
                replace HN3 := Lib.hid (show smB Y R2 S' (k + 1) = false from HN3.out)
                cases ht with
                | true =>
                  replace HN2 := Lib.hid (show idsL (R2.take (k + 1)) (htF px py) = H ++ [x0] from HN2.out)
                  have OV10 := Lib.hid OV9.out
                  have OU10 := Lib.hid OU9.out
                  have OR10 := Lib.hid OR9.out
                  have HB10 := Lib.hid HB9.out
                  have KA10 := Lib.hid K89.out
                  have KB10 := Lib.hid K9.out
                  have HAP2 := Lib.hid hap.out
                  clear hap OV9 OU9 OR9 HB9 K89 K9
                  go_upto_region 14 with fail
                  clear x0c x1c x2c r1c r2c
                  have x1c := KA10.out.cell 1 (v := .int .i64 r1) rfl
                  have x2c := KA10.out.cell 2 (v := .int .i64 r2) rfl
                  have x3c := KA10.out.cell 3 (v := .int .i64 x3) rfl
                  have x4c := KA10.out.cell 4 (v := .int .i64 x4) rfl
                  go_wp2_with fail
                  refine (CH.out _).mono ?_
                  rintro e9 w11 ⟨rfl, hb11⟩
                  have OV11 := Lib.hid (own_below OV10.out hb11)
                  have OU11 := Lib.hid (own_below OU10.out hb11)
                  have OR11 := Lib.hid (own_below OR10.out hb11)
                  have HB11 := Lib.hid (HB10.out.trans (hb11.mono HB10.out.size))
                  have KA11 := Lib.hid (KA10.out.below hb11)
                  have KB11 := Lib.hid (KB10.out.below hb11)
                  have x0c := KA11.out.cell 0 (v := .int .i64 x0) rfl
                  clear hb11 OV10 OU10 OR10 HB10 KA10 KB10 x1c x2c x3c x4c
                  obtain ⟨u1, w12, hrun2, hown2, hgrow2, _, hat2⟩ := run_append_own_at (P := Try.prog) (w11.alloc (.cells #[.int .i64 x0] 3)) w3.heap.size 42 42 3 i0 _ 1 8 Try.underlying42 hi hz0 hz1 hz2 rfl (by decide) _ _ _ (OU11.out.alloc (.cells #[.int .i64 x0] 3))
                    ⟨w11.heap.size, 0, none⟩ 1 1 [.int .i64 x0] rfl (cells_new' _ _ _ _ rfl _ rfl) (fun u hu => zc_one x0 u hu) (by unfold maxLen; omega) (by omega) (by have := HB11.out.size; simp; omega)
                  obtain ⟨AU2, cU2, rfl, hcU2, hmU2⟩ := own_slice hown2
                  have OU12 := Lib.hid hown2
                  have OV12 := Lib.hid ((OV11.out.alloc (.cells #[.int .i64 x0] 3)).kept hgrow2 (.inr HAP2.out))
                  have OR12 := Lib.hid ((OR11.out.alloc (.cells #[.int .i64 x0] 3)).kept hgrow2 (own_ne OR11.out OU11.out (by decide)))
                  have HB12 := Lib.hid ((HB11.out.alloc HB11.out.size (.cells #[.int .i64 x0] 3)).grown hgrow2 (by have := HB11.out.size; simp; omega) (fun j hj => own_from OU11.out j hj))
                  have KA12 := Lib.hid ((KA11.out.alloc (.cells #[.int .i64 x0] 3)).grown hgrow2 (blk_ne_own KA11.out OU11.out (by decide)))
                  have KB12 := Lib.hid ((KB11.out.alloc (.cells #[.int .i64 x0] 3)).grown hgrow2 (blk_ne_own KB11.out OU11.out (by decide)))
                  have HAP3 := Lib.hid (Ne.symm (apart_grow (v := .slice AU hl cU) (OV11.out.alloc (.cells #[.int .i64 x0] 3)) (fun e => HAP2.out e.symm) hat2))
                  clear hown2 hgrow2 hat2 HAP2 OV11 OU11 OR11 HB11 KA11 KB11
                  go_upto_region 16 with fail
                  clear x0c
                  have x1c := KA12.out.cell 1 (v := .int .i64 r1) rfl
                  have x2c := KA12.out.cell 2 (v := .int .i64 r2) rfl
                  have x3c := KA12.out.cell 3 (v := .int .i64 x3) rfl
                  have x4c := KA12.out.cell 4 (v := .int .i64 x4) rfl
                  have r1c := KB12.out.cell 0 (v := .int .i64 r1) rfl
                  have r2c := KB12.out.cell 1 (v := .int .i64 r2) rfl
                  have r3c := KB12.out.cell 2 (v := .int .i64 r3) rfl
                  have r4c := KB12.out.cell 3 (v := .int .i64 r4) rfl
                  have hrunE := eqR_ne r1 r2 x3 x4 r1 r2 r3 r4 HNE.out
                  go_wp2
                  go_roundw
                  case rel => exact ⟨k + 1, false, by omega, rfl, by go_num, Lib.hid (by rw [HN1.out, ← HP.out]; exact OV12.out), Lib.hid (by rw [HN2.out, List.length_append, zcs_snoc, ← HH.out]; exact OU12.out), HAP3, OR12, Lib.hid (by rw [HN3.out]), HB12⟩
                  case measure => simp [intOf]; omega
                | false =>
                  replace HN2 := Lib.hid (show idsL (R2.take (k + 1)) (htF px py) = H from HN2.out.trans (List.append_nil H))
                  have OV10 := Lib.hid OV9.out
                  have OU10 := Lib.hid OU9.out
                  have OR10 := Lib.hid OR9.out
                  have HB10 := Lib.hid HB9.out
                  have KA10 := Lib.hid K89.out
                  have KB10 := Lib.hid K9.out
                  have HAP2 := Lib.hid hap.out
                  clear hap OV9 OU9 OR9 HB9 K89 K9
                  go_upto_region 14 with fail
                  clear x0c x1c x2c r1c r2c
                  have x1c := KA10.out.cell 1 (v := .int .i64 r1) rfl
                  have x2c := KA10.out.cell 2 (v := .int .i64 r2) rfl
                  have x3c := KA10.out.cell 3 (v := .int .i64 x3) rfl
                  have x4c := KA10.out.cell 4 (v := .int .i64 x4) rfl
                  go_wp2_with fail
                  refine (CH.out _).mono ?_
                  rintro e9 w11 ⟨rfl, hb11⟩
                  have OV11 := Lib.hid (own_below OV10.out hb11)
                  have OU11 := Lib.hid (own_below OU10.out hb11)
                  have OR11 := Lib.hid (own_below OR10.out hb11)
                  have HB11 := Lib.hid (HB10.out.trans (hb11.mono HB10.out.size))
                  have KA11 := Lib.hid (KA10.out.below hb11)
                  have KB11 := Lib.hid (KB10.out.below hb11)
                  have x0c := KA11.out.cell 0 (v := .int .i64 x0) rfl
                  clear hb11 OV10 OU10 OR10 HB10 KA10 KB10 x1c x2c x3c x4c
                  have OV12 := Lib.hid OV11.out
                  have OU12 := Lib.hid OU11.out
                  have OR12 := Lib.hid OR11.out
                  have HB12 := Lib.hid HB11.out
                  have KA12 := Lib.hid KA11.out
                  have KB12 := Lib.hid KB11.out
                  have HAP3 := Lib.hid HAP2.out
                  clear HAP2 OV11 OU11 OR11 HB11 KA11 KB11
                  go_upto_region 16 with fail
                  clear x0c
                  have x1c := KA12.out.cell 1 (v := .int .i64 r1) rfl
                  have x2c := KA12.out.cell 2 (v := .int .i64 r2) rfl
                  have x3c := KA12.out.cell 3 (v := .int .i64 x3) rfl
                  have x4c := KA12.out.cell 4 (v := .int .i64 x4) rfl
                  have r1c := KB12.out.cell 0 (v := .int .i64 r1) rfl
                  have r2c := KB12.out.cell 1 (v := .int .i64 r2) rfl
                  have r3c := KB12.out.cell 2 (v := .int .i64 r3) rfl
                  have r4c := KB12.out.cell 3 (v := .int .i64 r4) rfl
                  have hrunE := eqR_ne r1 r2 x3 x4 r1 r2 r3 r4 HNE.out
                  go_wp2
                  go_roundw
                  case rel => exact ⟨k + 1, false, by omega, rfl, by go_num, Lib.hid (by rw [HN1.out, ← HP.out]; exact OV12.out), Lib.hid (by rw [HN2.out, ← HH.out]; exact OU12.out), HAP3, OR12, Lib.hid (by rw [HN3.out]), HB12⟩
                  case measure => simp [intOf]; omega
          · have y1 : (r2 != x2) = true := by simpa using hy
            have y2 : (r2 == x2) = false := by simpa using hy
            have hm : mvB (some ⟨r0, r1, r2, r3, r4⟩) ⟨x0, r1, x2, x3, x4⟩ = true := by simp [mvB, hy]
            have hn1 := HN1.out
            rw [hm] at hn1
            replace HN1 := Lib.hid (show idsL (R2.take (k + 1)) (mvF Y) = P ++ [x0] from hn1)
            clear hm hn1
            have HNE : Hid (NeR r1 r2 r3 r4 r1 x2 x3 x4) := Lib.hid (fun h => hy h.2.1)
            replace HN3 := Lib.hid (show smB Y R2 S' (k + 1) = (b && false) by have := HN3.out; rw [decide_eq_false (ctor_ne HNE.out)] at this; exact this)
            clear hy
            cases b with
            | true =>
              replace HN3 := Lib.hid (show smB Y R2 S' (k + 1) = false from HN3.out)
              cases ht with
              | true =>
                replace HN2 := Lib.hid (show idsL (R2.take (k + 1)) (htF px py) = H ++ [x0] from HN2.out)
                obtain ⟨v1, w10, hrun, hown1, hgrow1, _, hat1⟩ := run_append_own_at (P := Try.prog) (W9.alloc (.cells #[.int .i64 x0] 3)) w3.heap.size 42 42 3 i0 _ 1 8 Try.underlying42 hi hz0 hz1 hz2 rfl (by decide) _ _ _ (OV9.out.alloc (.cells #[.int .i64 x0] 3))
                  ⟨W9.heap.size, 0, none⟩ 1 1 [.int .i64 x0] rfl (cells_new' _ _ _ _ rfl _ rfl) (fun u hu => zc_one x0 u hu) (by unfold maxLen; omega) (by omega) (by have := HB9.out.size; simp; omega)
                obtain ⟨AV2, cV2, rfl, hcV2, hmV2⟩ := own_slice hown1
                have OV10 := Lib.hid hown1
                have OU10 := Lib.hid ((OU9.out.alloc (.cells #[.int .i64 x0] 3)).kept hgrow1 (.inr (fun e => hap.out e.symm)))
                have OR10 := Lib.hid ((OR9.out.alloc (.cells #[.int .i64 x0] 3)).kept hgrow1 (own_ne OR9.out OV9.out (by decide)))
                have HB10 := Lib.hid ((HB9.out.alloc HB9.out.size (.cells #[.int .i64 x0] 3)).grown hgrow1 (by have := HB9.out.size; simp; omega) (fun j hj => own_from OV9.out j hj))
                have KA10 := Lib.hid ((K89.out.alloc (.cells #[.int .i64 x0] 3)).grown hgrow1 (blk_ne_own K89.out OV9.out (by decide)))
                have KB10 := Lib.hid ((K9.out.alloc (.cells #[.int .i64 x0] 3)).grown hgrow1 (blk_ne_own K9.out OV9.out (by decide)))
                have HAP2 := Lib.hid (apart_grow (v := .slice AV pl cV) (OU9.out.alloc (.cells #[.int .i64 x0] 3)) hap.out hat1)
                clear hown1 hgrow1 hat1 hap OV9 OU9 OR9 HB9 K89 K9
                go_upto_region 14 with fail
                clear x0c x1c x2c r1c r2c
                have x1c := KA10.out.cell 1 (v := .int .i64 r1) rfl
                have x2c := KA10.out.cell 2 (v := .int .i64 x2) rfl
                have x3c := KA10.out.cell 3 (v := .int .i64 x3) rfl
                have x4c := KA10.out.cell 4 (v := .int .i64 x4) rfl
                go_wp2_with fail
                refine (CH.out _).mono ?_
                rintro e9 w11 ⟨rfl, hb11⟩
                have OV11 := Lib.hid (own_below OV10.out hb11)
                have OU11 := Lib.hid (own_below OU10.out hb11)
                have OR11 := Lib.hid (own_below OR10.out hb11)
                have HB11 := Lib.hid (HB10.out.trans (hb11.mono HB10.out.size))
                have KA11 := Lib.hid (KA10.out.below hb11)
                have KB11 := Lib.hid (KB10.out.below hb11)
                have x0c := KA11.out.cell 0 (v := .int .i64 x0) rfl
                clear hb11 OV10 OU10 OR10 HB10 KA10 KB10 x1c x2c x3c x4c
                obtain ⟨u1, w12, hrun2, hown2, hgrow2, _, hat2⟩ := run_append_own_at (P := Try.prog) (w11.alloc (.cells #[.int .i64 x0] 3)) w3.heap.size 42 42 3 i0 _ 1 8 Try.underlying42 hi hz0 hz1 hz2 rfl (by decide) _ _ _ (OU11.out.alloc (.cells #[.int .i64 x0] 3))
                  ⟨w11.heap.size, 0, none⟩ 1 1 [.int .i64 x0] rfl (cells_new' _ _ _ _ rfl _ rfl) (fun u hu => zc_one x0 u hu) (by unfold maxLen; omega) (by omega) (by have := HB11.out.size; simp; omega)
                obtain ⟨AU2, cU2, rfl, hcU2, hmU2⟩ := own_slice hown2
                have OU12 := Lib.hid hown2
                have OV12 := Lib.hid ((OV11.out.alloc (.cells #[.int .i64 x0] 3)).kept hgrow2 (.inr HAP2.out))
                have OR12 := Lib.hid ((OR11.out.alloc (.cells #[.int .i64 x0] 3)).kept hgrow2 (own_ne OR11.out OU11.out (by decide)))
                have HB12 := Lib.hid ((HB11.out.alloc HB11.out.size (.cells #[.int .i64 x0] 3)).grown hgrow2 (by have := HB11.out.size; simp; omega) (fun j hj => own_from OU11.out j hj))
                have KA12 := Lib.hid ((KA11.out.alloc (.cells #[.int .i64 x0] 3)).grown hgrow2 (blk_ne_own KA11.out OU11.out (by decide)))
                have KB12 := Lib.hid ((KB11.out.alloc (.cells #[.int .i64 x0] 3)).grown hgrow2 (blk_ne_own KB11.out OU11.out (by decide)))
                have HAP3 := Lib.hid (Ne.symm (apart_grow (v := .slice AU hl cU) (OV11.out.alloc (.cells #[.int .i64 x0] 3)) (fun e => HAP2.out e.symm) hat2))
                clear hown2 hgrow2 hat2 HAP2 OV11 OU11 OR11 HB11 KA11 KB11
                go_upto_region 16 with fail
                clear x0c
                have x1c := KA12.out.cell 1 (v := .int .i64 r1) rfl
                have x2c := KA12.out.cell 2 (v := .int .i64 x2) rfl
                have x3c := KA12.out.cell 3 (v := .int .i64 x3) rfl
                have x4c := KA12.out.cell 4 (v := .int .i64 x4) rfl
                have r1c := KB12.out.cell 0 (v := .int .i64 r1) rfl
                have r2c := KB12.out.cell 1 (v := .int .i64 r2) rfl
                have r3c := KB12.out.cell 2 (v := .int .i64 r3) rfl
                have r4c := KB12.out.cell 3 (v := .int .i64 r4) rfl
                have hrunE := eqR_ne r1 x2 x3 x4 r1 r2 r3 r4 HNE.out
                go_wp2
                go_roundw
                case rel => exact ⟨k + 1, false, by omega, rfl, by go_num, Lib.hid (by rw [HN1.out, List.length_append, zcs_snoc, ← HP.out]; exact OV12.out), Lib.hid (by rw [HN2.out, List.length_append, zcs_snoc, ← HH.out]; exact OU12.out), HAP3, OR12, Lib.hid (by rw [HN3.out]), HB12⟩
                case measure => simp [intOf]; omega
              | false =>
                replace HN2 := Lib.hid (show idsL (R2.take (k + 1)) (htF px py) = H from HN2.out.trans (List.append_nil H))
                obtain ⟨v1, w10, hrun, hown1, hgrow1, _, hat1⟩ := run_append_own_at (P := Try.prog) (W9.alloc (.cells #[.int .i64 x0] 3)) w3.heap.size 42 42 3 i0 _ 1 8 Try.underlying42 hi hz0 hz1 hz2 rfl (by decide) _ _ _ (OV9.out.alloc (.cells #[.int .i64 x0] 3))
                  ⟨W9.heap.size, 0, none⟩ 1 1 [.int .i64 x0] rfl (cells_new' _ _ _ _ rfl _ rfl) (fun u hu => zc_one x0 u hu) (by unfold maxLen; omega) (by omega) (by have := HB9.out.size; simp; omega)
                obtain ⟨AV2, cV2, rfl, hcV2, hmV2⟩ := own_slice hown1
                have OV10 := Lib.hid hown1
                have OU10 := Lib.hid ((OU9.out.alloc (.cells #[.int .i64 x0] 3)).kept hgrow1 (.inr (fun e => hap.out e.symm)))
                have OR10 := Lib.hid ((OR9.out.alloc (.cells #[.int .i64 x0] 3)).kept hgrow1 (own_ne OR9.out OV9.out (by decide)))
                have HB10 := Lib.hid ((HB9.out.alloc HB9.out.size (.cells #[.int .i64 x0] 3)).grown hgrow1 (by have := HB9.out.size; simp; omega) (fun j hj => own_from OV9.out j hj))
                have KA10 := Lib.hid ((K89.out.alloc (.cells #[.int .i64 x0] 3)).grown hgrow1 (blk_ne_own K89.out OV9.out (by decide)))
                have KB10 := Lib.hid ((K9.out.alloc (.cells #[.int .i64 x0] 3)).grown hgrow1 (blk_ne_own K9.out OV9.out (by decide)))
                have HAP2 := Lib.hid (apart_grow (v := .slice AV pl cV) (OU9.out.alloc (.cells #[.int .i64 x0] 3)) hap.out hat1)
                clear hown1 hgrow1 hat1 hap OV9 OU9 OR9 HB9 K89 K9
                go_upto_region 14 with fail
                clear x0c x1c x2c r1c r2c
                have x1c := KA10.out.cell 1 (v := .int .i64 r1) rfl
                have x2c := KA10.out.cell 2 (v := .int .i64 x2) rfl
                have x3c := KA10.out.cell 3 (v := .int .i64 x3) rfl
                have x4c := KA10.out.cell 4 (v := .int .i64 x4) rfl
                go_wp2_with fail
                refine (CH.out _).mono ?_
                rintro e9 w11 ⟨rfl, hb11⟩
                have OV11 := Lib.hid (own_below OV10.out hb11)
                have OU11 := Lib.hid (own_below OU10.out hb11)
                have OR11 := Lib.hid (own_below OR10.out hb11)
                have HB11 := Lib.hid (HB10.out.trans (hb11.mono HB10.out.size))
                have KA11 := Lib.hid (KA10.out.below hb11)
                have KB11 := Lib.hid (KB10.out.below hb11)
                have x0c := KA11.out.cell 0 (v := .int .i64 x0) rfl
                clear hb11 OV10 OU10 OR10 HB10 KA10 KB10 x1c x2c x3c x4c
                have OV12 := Lib.hid OV11.out
                have OU12 := Lib.hid OU11.out
                have OR12 := Lib.hid OR11.out
                have HB12 := Lib.hid HB11.out
                have KA12 := Lib.hid KA11.out
                have KB12 := Lib.hid KB11.out
                have HAP3 := Lib.hid HAP2.out
                clear HAP2 OV11 OU11 OR11 HB11 KA11 KB11
                go_upto_region 16 with fail
                clear x0c
                have x1c := KA12.out.cell 1 (v := .int .i64 r1) rfl
                have x2c := KA12.out.cell 2 (v := .int .i64 x2) rfl
                have x3c := KA12.out.cell 3 (v := .int .i64 x3) rfl
                have x4c := KA12.out.cell 4 (v := .int .i64 x4) rfl
                have r1c := KB12.out.cell 0 (v := .int .i64 r1) rfl
                have r2c := KB12.out.cell 1 (v := .int .i64 r2) rfl
                have r3c := KB12.out.cell 2 (v := .int .i64 r3) rfl
                have r4c := KB12.out.cell 3 (v := .int .i64 r4) rfl
                have hrunE := eqR_ne r1 x2 x3 x4 r1 r2 r3 r4 HNE.out
                go_wp2
                go_roundw
                case rel => exact ⟨k + 1, false, by omega, rfl, by go_num, Lib.hid (by rw [HN1.out, List.length_append, zcs_snoc, ← HP.out]; exact OV12.out), Lib.hid (by rw [HN2.out, ← HH.out]; exact OU12.out), HAP3, OR12, Lib.hid (by rw [HN3.out]), HB12⟩
                case measure => simp [intOf]; omega
            | false =>
              replace HN3 := Lib.hid (show smB Y R2 S' (k + 1) = false from HN3.out)
              cases ht with
              | true =>
                replace HN2 := Lib.hid (show idsL (R2.take (k + 1)) (htF px py) = H ++ [x0] from HN2.out)
                obtain ⟨v1, w10, hrun, hown1, hgrow1, _, hat1⟩ := run_append_own_at (P := Try.prog) (W9.alloc (.cells #[.int .i64 x0] 3)) w3.heap.size 42 42 3 i0 _ 1 8 Try.underlying42 hi hz0 hz1 hz2 rfl (by decide) _ _ _ (OV9.out.alloc (.cells #[.int .i64 x0] 3))
                  ⟨W9.heap.size, 0, none⟩ 1 1 [.int .i64 x0] rfl (cells_new' _ _ _ _ rfl _ rfl) (fun u hu => zc_one x0 u hu) (by unfold maxLen; omega) (by omega) (by have := HB9.out.size; simp; omega)
                obtain ⟨AV2, cV2, rfl, hcV2, hmV2⟩ := own_slice hown1
                have OV10 := Lib.hid hown1
                have OU10 := Lib.hid ((OU9.out.alloc (.cells #[.int .i64 x0] 3)).kept hgrow1 (.inr (fun e => hap.out e.symm)))
                have OR10 := Lib.hid ((OR9.out.alloc (.cells #[.int .i64 x0] 3)).kept hgrow1 (own_ne OR9.out OV9.out (by decide)))
                have HB10 := Lib.hid ((HB9.out.alloc HB9.out.size (.cells #[.int .i64 x0] 3)).grown hgrow1 (by have := HB9.out.size; simp; omega) (fun j hj => own_from OV9.out j hj))
                have KA10 := Lib.hid ((K89.out.alloc (.cells #[.int .i64 x0] 3)).grown hgrow1 (blk_ne_own K89.out OV9.out (by decide)))
                have KB10 := Lib.hid ((K9.out.alloc (.cells #[.int .i64 x0] 3)).grown hgrow1 (blk_ne_own K9.out OV9.out (by decide)))
                have HAP2 := Lib.hid (apart_grow (v := .slice AV pl cV) (OU9.out.alloc (.cells #[.int .i64 x0] 3)) hap.out hat1)
                clear hown1 hgrow1 hat1 hap OV9 OU9 OR9 HB9 K89 K9
                go_upto_region 14 with fail
                clear x0c x1c x2c r1c r2c
                have x1c := KA10.out.cell 1 (v := .int .i64 r1) rfl
                have x2c := KA10.out.cell 2 (v := .int .i64 x2) rfl
                have x3c := KA10.out.cell 3 (v := .int .i64 x3) rfl
                have x4c := KA10.out.cell 4 (v := .int .i64 x4) rfl
                go_wp2_with fail
                refine (CH.out _).mono ?_
                rintro e9 w11 ⟨rfl, hb11⟩
                have OV11 := Lib.hid (own_below OV10.out hb11)
                have OU11 := Lib.hid (own_below OU10.out hb11)
                have OR11 := Lib.hid (own_below OR10.out hb11)
                have HB11 := Lib.hid (HB10.out.trans (hb11.mono HB10.out.size))
                have KA11 := Lib.hid (KA10.out.below hb11)
                have KB11 := Lib.hid (KB10.out.below hb11)
                have x0c := KA11.out.cell 0 (v := .int .i64 x0) rfl
                clear hb11 OV10 OU10 OR10 HB10 KA10 KB10 x1c x2c x3c x4c
                obtain ⟨u1, w12, hrun2, hown2, hgrow2, _, hat2⟩ := run_append_own_at (P := Try.prog) (w11.alloc (.cells #[.int .i64 x0] 3)) w3.heap.size 42 42 3 i0 _ 1 8 Try.underlying42 hi hz0 hz1 hz2 rfl (by decide) _ _ _ (OU11.out.alloc (.cells #[.int .i64 x0] 3))
                  ⟨w11.heap.size, 0, none⟩ 1 1 [.int .i64 x0] rfl (cells_new' _ _ _ _ rfl _ rfl) (fun u hu => zc_one x0 u hu) (by unfold maxLen; omega) (by omega) (by have := HB11.out.size; simp; omega)
                obtain ⟨AU2, cU2, rfl, hcU2, hmU2⟩ := own_slice hown2
                have OU12 := Lib.hid hown2
                have OV12 := Lib.hid ((OV11.out.alloc (.cells #[.int .i64 x0] 3)).kept hgrow2 (.inr HAP2.out))
                have OR12 := Lib.hid ((OR11.out.alloc (.cells #[.int .i64 x0] 3)).kept hgrow2 (own_ne OR11.out OU11.out (by decide)))
                have HB12 := Lib.hid ((HB11.out.alloc HB11.out.size (.cells #[.int .i64 x0] 3)).grown hgrow2 (by have := HB11.out.size; simp; omega) (fun j hj => own_from OU11.out j hj))
                have KA12 := Lib.hid ((KA11.out.alloc (.cells #[.int .i64 x0] 3)).grown hgrow2 (blk_ne_own KA11.out OU11.out (by decide)))
                have KB12 := Lib.hid ((KB11.out.alloc (.cells #[.int .i64 x0] 3)).grown hgrow2 (blk_ne_own KB11.out OU11.out (by decide)))
                have HAP3 := Lib.hid (Ne.symm (apart_grow (v := .slice AU hl cU) (OV11.out.alloc (.cells #[.int .i64 x0] 3)) (fun e => HAP2.out e.symm) hat2))
                clear hown2 hgrow2 hat2 HAP2 OV11 OU11 OR11 HB11 KA11 KB11
                go_upto_region 16 with fail
                clear x0c
                have x1c := KA12.out.cell 1 (v := .int .i64 r1) rfl
                have x2c := KA12.out.cell 2 (v := .int .i64 x2) rfl
                have x3c := KA12.out.cell 3 (v := .int .i64 x3) rfl
                have x4c := KA12.out.cell 4 (v := .int .i64 x4) rfl
                have r1c := KB12.out.cell 0 (v := .int .i64 r1) rfl
                have r2c := KB12.out.cell 1 (v := .int .i64 r2) rfl
                have r3c := KB12.out.cell 2 (v := .int .i64 r3) rfl
                have r4c := KB12.out.cell 3 (v := .int .i64 r4) rfl
                have hrunE := eqR_ne r1 x2 x3 x4 r1 r2 r3 r4 HNE.out
                go_wp2
                go_roundw
                case rel => exact ⟨k + 1, false, by omega, rfl, by go_num, Lib.hid (by rw [HN1.out, List.length_append, zcs_snoc, ← HP.out]; exact OV12.out), Lib.hid (by rw [HN2.out, List.length_append, zcs_snoc, ← HH.out]; exact OU12.out), HAP3, OR12, Lib.hid (by rw [HN3.out]), HB12⟩
                case measure => simp [intOf]; omega
              | false =>
                replace HN2 := Lib.hid (show idsL (R2.take (k + 1)) (htF px py) = H from HN2.out.trans (List.append_nil H))
                obtain ⟨v1, w10, hrun, hown1, hgrow1, _, hat1⟩ := run_append_own_at (P := Try.prog) (W9.alloc (.cells #[.int .i64 x0] 3)) w3.heap.size 42 42 3 i0 _ 1 8 Try.underlying42 hi hz0 hz1 hz2 rfl (by decide) _ _ _ (OV9.out.alloc (.cells #[.int .i64 x0] 3))
                  ⟨W9.heap.size, 0, none⟩ 1 1 [.int .i64 x0] rfl (cells_new' _ _ _ _ rfl _ rfl) (fun u hu => zc_one x0 u hu) (by unfold maxLen; omega) (by omega) (by have := HB9.out.size; simp; omega)
                obtain ⟨AV2, cV2, rfl, hcV2, hmV2⟩ := own_slice hown1
                have OV10 := Lib.hid hown1
                have OU10 := Lib.hid ((OU9.out.alloc (.cells #[.int .i64 x0] 3)).kept hgrow1 (.inr (fun e => hap.out e.symm)))
                have OR10 := Lib.hid ((OR9.out.alloc (.cells #[.int .i64 x0] 3)).kept hgrow1 (own_ne OR9.out OV9.out (by decide)))
                have HB10 := Lib.hid ((HB9.out.alloc HB9.out.size (.cells #[.int .i64 x0] 3)).grown hgrow1 (by have := HB9.out.size; simp; omega) (fun j hj => own_from OV9.out j hj))
                have KA10 := Lib.hid ((K89.out.alloc (.cells #[.int .i64 x0] 3)).grown hgrow1 (blk_ne_own K89.out OV9.out (by decide)))
                have KB10 := Lib.hid ((K9.out.alloc (.cells #[.int .i64 x0] 3)).grown hgrow1 (blk_ne_own K9.out OV9.out (by decide)))
                have HAP2 := Lib.hid (apart_grow (v := .slice AV pl cV) (OU9.out.alloc (.cells #[.int .i64 x0] 3)) hap.out hat1)
                clear hown1 hgrow1 hat1 hap OV9 OU9 OR9 HB9 K89 K9
                go_upto_region 14 with fail
                clear x0c x1c x2c r1c r2c
                have x1c := KA10.out.cell 1 (v := .int .i64 r1) rfl
                have x2c := KA10.out.cell 2 (v := .int .i64 x2) rfl
                have x3c := KA10.out.cell 3 (v := .int .i64 x3) rfl
                have x4c := KA10.out.cell 4 (v := .int .i64 x4) rfl
                go_wp2_with fail
                refine (CH.out _).mono ?_
                rintro e9 w11 ⟨rfl, hb11⟩
                have OV11 := Lib.hid (own_below OV10.out hb11)
                have OU11 := Lib.hid (own_below OU10.out hb11)
                have OR11 := Lib.hid (own_below OR10.out hb11)
                have HB11 := Lib.hid (HB10.out.trans (hb11.mono HB10.out.size))
                have KA11 := Lib.hid (KA10.out.below hb11)
                have KB11 := Lib.hid (KB10.out.below hb11)
                have x0c := KA11.out.cell 0 (v := .int .i64 x0) rfl
                clear hb11 OV10 OU10 OR10 HB10 KA10 KB10 x1c x2c x3c x4c
                have OV12 := Lib.hid OV11.out
                have OU12 := Lib.hid OU11.out
                have OR12 := Lib.hid OR11.out
                have HB12 := Lib.hid HB11.out
                have KA12 := Lib.hid KA11.out
                have KB12 := Lib.hid KB11.out
                have HAP3 := Lib.hid HAP2.out
                clear HAP2 OV11 OU11 OR11 HB11 KA11 KB11
                go_upto_region 16 with fail
                clear x0c
                have x1c := KA12.out.cell 1 (v := .int .i64 r1) rfl
                have x2c := KA12.out.cell 2 (v := .int .i64 x2) rfl
                have x3c := KA12.out.cell 3 (v := .int .i64 x3) rfl
                have x4c := KA12.out.cell 4 (v := .int .i64 x4) rfl
                have r1c := KB12.out.cell 0 (v := .int .i64 r1) rfl
                have r2c := KB12.out.cell 1 (v := .int .i64 r2) rfl
                have r3c := KB12.out.cell 2 (v := .int .i64 r3) rfl
                have r4c := KB12.out.cell 3 (v := .int .i64 r4) rfl
                have hrunE := eqR_ne r1 x2 x3 x4 r1 r2 r3 r4 HNE.out
                go_wp2
                go_roundw
                case rel => exact ⟨k + 1, false, by omega, rfl, by go_num, Lib.hid (by rw [HN1.out, List.length_append, zcs_snoc, ← HP.out]; exact OV12.out), Lib.hid (by rw [HN2.out, ← HH.out]; exact OU12.out), HAP3, OR12, Lib.hid (by rw [HN3.out]), HB12⟩
                case measure => simp [intOf]; omega
        · have y1 : (r1 != x1) = true := by simpa using hx
          have y2 : (r1 == x1) = false := by simpa using hx
          have hm : mvB (some ⟨r0, r1, r2, r3, r4⟩) ⟨x0, x1, x2, x3, x4⟩ = true := by simp [mvB, hx]
          have hn1 := HN1.out
          rw [hm] at hn1
          replace HN1 := Lib.hid (show idsL (R2.take (k + 1)) (mvF Y) = P ++ [x0] from hn1)
          clear hm hn1
          have HNE : Hid (NeR r1 r2 r3 r4 x1 x2 x3 x4) := Lib.hid (fun h => hx h.1)
          replace HN3 := Lib.hid (show smB Y R2 S' (k + 1) = (b && false) by have := HN3.out; rw [decide_eq_false (ctor_ne HNE.out)] at this; exact this)
          clear hx
          cases b with
          | true =>
            replace HN3 := Lib.hid (show smB Y R2 S' (k + 1) = false from HN3.out)
            cases ht with
            | true =>
              replace HN2 := Lib.hid (show idsL (R2.take (k + 1)) (htF px py) = H ++ [x0] from HN2.out)
              obtain ⟨v1, w10, hrun, hown1, hgrow1, _, hat1⟩ := run_append_own_at (P := Try.prog) (W9.alloc (.cells #[.int .i64 x0] 3)) w3.heap.size 42 42 3 i0 _ 1 8 Try.underlying42 hi hz0 hz1 hz2 rfl (by decide) _ _ _ (OV9.out.alloc (.cells #[.int .i64 x0] 3))
                ⟨W9.heap.size, 0, none⟩ 1 1 [.int .i64 x0] rfl (cells_new' _ _ _ _ rfl _ rfl) (fun u hu => zc_one x0 u hu) (by unfold maxLen; omega) (by omega) (by have := HB9.out.size; simp; omega)
              obtain ⟨AV2, cV2, rfl, hcV2, hmV2⟩ := own_slice hown1
              have OV10 := Lib.hid hown1
              have OU10 := Lib.hid ((OU9.out.alloc (.cells #[.int .i64 x0] 3)).kept hgrow1 (.inr (fun e => hap.out e.symm)))
              have OR10 := Lib.hid ((OR9.out.alloc (.cells #[.int .i64 x0] 3)).kept hgrow1 (own_ne OR9.out OV9.out (by decide)))
              have HB10 := Lib.hid ((HB9.out.alloc HB9.out.size (.cells #[.int .i64 x0] 3)).grown hgrow1 (by have := HB9.out.size; simp; omega) (fun j hj => own_from OV9.out j hj))
              have KA10 := Lib.hid ((K89.out.alloc (.cells #[.int .i64 x0] 3)).grown hgrow1 (blk_ne_own K89.out OV9.out (by decide)))
              have KB10 := Lib.hid ((K9.out.alloc (.cells #[.int .i64 x0] 3)).grown hgrow1 (blk_ne_own K9.out OV9.out (by decide)))
              have HAP2 := Lib.hid (apart_grow (v := .slice AV pl cV) (OU9.out.alloc (.cells #[.int .i64 x0] 3)) hap.out hat1)
              clear hown1 hgrow1 hat1 hap OV9 OU9 OR9 HB9 K89 K9
              go_upto_region 14 with fail
              clear x0c x1c x2c r1c r2c
              have x1c := KA10.out.cell 1 (v := .int .i64 x1) rfl
              have x2c := KA10.out.cell 2 (v := .int .i64 x2) rfl
              have x3c := KA10.out.cell 3 (v := .int .i64 x3) rfl
              have x4c := KA10.out.cell 4 (v := .int .i64 x4) rfl
              go_wp2_with fail
              refine (CH.out _).mono ?_
              rintro e9 w11 ⟨rfl, hb11⟩
              have OV11 := Lib.hid (own_below OV10.out hb11)
              have OU11 := Lib.hid (own_below OU10.out hb11)
              have OR11 := Lib.hid (own_below OR10.out hb11)
              have HB11 := Lib.hid (HB10.out.trans (hb11.mono HB10.out.size))
              have KA11 := Lib.hid (KA10.out.below hb11)
              have KB11 := Lib.hid (KB10.out.below hb11)
              have x0c := KA11.out.cell 0 (v := .int .i64 x0) rfl
              clear hb11 OV10 OU10 OR10 HB10 KA10 KB10 x1c x2c x3c x4c
              obtain ⟨u1, w12, hrun2, hown2, hgrow2, _, hat2⟩ := run_append_own_at (P := Try.prog) (w11.alloc (.cells #[.int .i64 x0] 3)) w3.heap.size 42 42 3 i0 _ 1 8 Try.underlying42 hi hz0 hz1 hz2 rfl (by decide) _ _ _ (OU11.out.alloc (.cells #[.int .i64 x0] 3))
                ⟨w11.heap.size, 0, none⟩ 1 1 [.int .i64 x0] rfl (cells_new' _ _ _ _ rfl _ rfl) (fun u hu => zc_one x0 u hu) (by unfold maxLen; omega) (by omega) (by have := HB11.out.size; simp; omega)
              obtain ⟨AU2, cU2, rfl, hcU2, hmU2⟩ := own_slice hown2
              have OU12 := Lib.hid hown2
              have OV12 := Lib.hid ((OV11.out.alloc (.cells #[.int .i64 x0] 3)).kept hgrow2 (.inr HAP2.out))
              have OR12 := Lib.hid ((OR11.out.alloc (.cells #[.int .i64 x0] 3)).kept hgrow2 (own_ne OR11.out OU11.out (by decide)))
              have HB12 := Lib.hid ((HB11.out.alloc HB11.out.size (.cells #[.int .i64 x0] 3)).grown hgrow2 (by have := HB11.out.size; simp; omega) (fun j hj => own_from OU11.out j hj))
              have KA12 := Lib.hid ((KA11.out.alloc (.cells #[.int .i64 x0] 3)).grown hgrow2 (blk_ne_own KA11.out OU11.out (by decide)))
              have KB12 := Lib.hid ((KB11.out.alloc (.cells #[.int .i64 x0] 3)).grown hgrow2 (blk_ne_own KB11.out OU11.out (by decide)))
              have HAP3 := Lib.hid (Ne.symm (apart_grow (v := .slice AU hl cU) (OV11.out.alloc (.cells #[.int .i64 x0] 3)) (fun e => HAP2.out e.symm) hat2))
              clear hown2 hgrow2 hat2 HAP2 OV11 OU11 OR11 HB11 KA11 KB11
              go_upto_region 16 with fail
              clear x0c
              have x1c := KA12.out.cell 1 (v := .int .i64 x1) rfl
              have x2c := KA12.out.cell 2 (v := .int .i64 x2) rfl
              have x3c := KA12.out.cell 3 (v := .int .i64 x3) rfl
              have x4c := KA12.out.cell 4 (v := .int .i64 x4) rfl
              have r1c := KB12.out.cell 0 (v := .int .i64 r1) rfl
              have r2c := KB12.out.cell 1 (v := .int .i64 r2) rfl
              have r3c := KB12.out.cell 2 (v := .int .i64 r3) rfl
              have r4c := KB12.out.cell 3 (v := .int .i64 r4) rfl
              have hrunE := eqR_ne x1 x2 x3 x4 r1 r2 r3 r4 HNE.out
              go_wp2
              go_roundw
              case rel => exact ⟨k + 1, false, by omega, rfl, by go_num, Lib.hid (by rw [HN1.out, List.length_append, zcs_snoc, ← HP.out]; exact OV12.out), Lib.hid (by rw [HN2.out, List.length_append, zcs_snoc, ← HH.out]; exact OU12.out), HAP3, OR12, Lib.hid (by rw [HN3.out]), HB12⟩
              case measure => simp [intOf]; omega
            | false =>
              replace HN2 := Lib.hid (show idsL (R2.take (k + 1)) (htF px py) = H from HN2.out.trans (List.append_nil H))
              obtain ⟨v1, w10, hrun, hown1, hgrow1, _, hat1⟩ := run_append_own_at (P := Try.prog) (W9.alloc (.cells #[.int .i64 x0] 3)) w3.heap.size 42 42 3 i0 _ 1 8 Try.underlying42 hi hz0 hz1 hz2 rfl (by decide) _ _ _ (OV9.out.alloc (.cells #[.int .i64 x0] 3))
                ⟨W9.heap.size, 0, none⟩ 1 1 [.int .i64 x0] rfl (cells_new' _ _ _ _ rfl _ rfl) (fun u hu => zc_one x0 u hu) (by unfold maxLen; omega) (by omega) (by have := HB9.out.size; simp; omega)
              obtain ⟨AV2, cV2, rfl, hcV2, hmV2⟩ := own_slice hown1
              have OV10 := Lib.hid hown1
              have OU10 := Lib.hid ((OU9.out.alloc (.cells #[.int .i64 x0] 3)).kept hgrow1 (.inr (fun e => hap.out e.symm)))
              have OR10 := Lib.hid ((OR9.out.alloc (.cells #[.int .i64 x0] 3)).kept hgrow1 (own_ne OR9.out OV9.out (by decide)))
              have HB10 := Lib.hid ((HB9.out.alloc HB9.out.size (.cells #[.int .i64 x0] 3)).grown hgrow1 (by have := HB9.out.size; simp; omega) (fun j hj => own_from OV9.out j hj))
              have KA10 := Lib.hid ((K89.out.alloc (.cells #[.int .i64 x0] 3)).grown hgrow1 (blk_ne_own K89.out OV9.out (by decide)))
              have KB10 := Lib.hid ((K9.out.alloc (.cells #[.int .i64 x0] 3)).grown hgrow1 (blk_ne_own K9.out OV9.out (by decide)))
              have HAP2 := Lib.hid (apart_grow (v := .slice AV pl cV) (OU9.out.alloc (.cells #[.int .i64 x0] 3)) hap.out hat1)
              clear hown1 hgrow1 hat1 hap OV9 OU9 OR9 HB9 K89 K9
              go_upto_region 14 with fail
              clear x0c x1c x2c r1c r2c
              have x1c := KA10.out.cell 1 (v := .int .i64 x1) rfl
              have x2c := KA10.out.cell 2 (v := .int .i64 x2) rfl
              have x3c := KA10.out.cell 3 (v := .int .i64 x3) rfl
              have x4c := KA10.out.cell 4 (v := .int .i64 x4) rfl
              go_wp2_with fail
              refine (CH.out _).mono ?_
              rintro e9 w11 ⟨rfl, hb11⟩
              have OV11 := Lib.hid (own_below OV10.out hb11)
              have OU11 := Lib.hid (own_below OU10.out hb11)
              have OR11 := Lib.hid (own_below OR10.out hb11)
              have HB11 := Lib.hid (HB10.out.trans (hb11.mono HB10.out.size))
              have KA11 := Lib.hid (KA10.out.below hb11)
              have KB11 := Lib.hid (KB10.out.below hb11)
              have x0c := KA11.out.cell 0 (v := .int .i64 x0) rfl
              clear hb11 OV10 OU10 OR10 HB10 KA10 KB10 x1c x2c x3c x4c
              have OV12 := Lib.hid OV11.out
              have OU12 := Lib.hid OU11.out
              have OR12 := Lib.hid OR11.out
              have HB12 := Lib.hid HB11.out
              have KA12 := Lib.hid KA11.out
              have KB12 := Lib.hid KB11.out
              have HAP3 := Lib.hid HAP2.out
              clear HAP2 OV11 OU11 OR11 HB11 KA11 KB11
              go_upto_region 16 with fail
              clear x0c
              have x1c := KA12.out.cell 1 (v := .int .i64 x1) rfl
              have x2c := KA12.out.cell 2 (v := .int .i64 x2) rfl
              have x3c := KA12.out.cell 3 (v := .int .i64 x3) rfl
              have x4c := KA12.out.cell 4 (v := .int .i64 x4) rfl
              have r1c := KB12.out.cell 0 (v := .int .i64 r1) rfl
              have r2c := KB12.out.cell 1 (v := .int .i64 r2) rfl
              have r3c := KB12.out.cell 2 (v := .int .i64 r3) rfl
              have r4c := KB12.out.cell 3 (v := .int .i64 r4) rfl
              have hrunE := eqR_ne x1 x2 x3 x4 r1 r2 r3 r4 HNE.out
              go_wp2
              go_roundw
              case rel => exact ⟨k + 1, false, by omega, rfl, by go_num, Lib.hid (by rw [HN1.out, List.length_append, zcs_snoc, ← HP.out]; exact OV12.out), Lib.hid (by rw [HN2.out, ← HH.out]; exact OU12.out), HAP3, OR12, Lib.hid (by rw [HN3.out]), HB12⟩
              case measure => simp [intOf]; omega
          | false =>
            replace HN3 := Lib.hid (show smB Y R2 S' (k + 1) = false from HN3.out)
            cases ht with
            | true =>
              replace HN2 := Lib.hid (show idsL (R2.take (k + 1)) (htF px py) = H ++ [x0] from HN2.out)
              obtain ⟨v1, w10, hrun, hown1, hgrow1, _, hat1⟩ := run_append_own_at (P := Try.prog) (W9.alloc (.cells #[.int .i64 x0] 3)) w3.heap.size 42 42 3 i0 _ 1 8 Try.underlying42 hi hz0 hz1 hz2 rfl (by decide) _ _ _ (OV9.out.alloc (.cells #[.int .i64 x0] 3))
                ⟨W9.heap.size, 0, none⟩ 1 1 [.int .i64 x0] rfl (cells_new' _ _ _ _ rfl _ rfl) (fun u hu => zc_one x0 u hu) (by unfold maxLen; omega) (by omega) (by have := HB9.out.size; simp; omega)
              obtain ⟨AV2, cV2, rfl, hcV2, hmV2⟩ := own_slice hown1
              have OV10 := Lib.hid hown1
              have OU10 := Lib.hid ((OU9.out.alloc (.cells #[.int .i64 x0] 3)).kept hgrow1 (.inr (fun e => hap.out e.symm)))
              have OR10 := Lib.hid ((OR9.out.alloc (.cells #[.int .i64 x0] 3)).kept hgrow1 (own_ne OR9.out OV9.out (by decide)))
              have HB10 := Lib.hid ((HB9.out.alloc HB9.out.size (.cells #[.int .i64 x0] 3)).grown hgrow1 (by have := HB9.out.size; simp; omega) (fun j hj => own_from OV9.out j hj))
              have KA10 := Lib.hid ((K89.out.alloc (.cells #[.int .i64 x0] 3)).grown hgrow1 (blk_ne_own K89.out OV9.out (by decide)))
              have KB10 := Lib.hid ((K9.out.alloc (.cells #[.int .i64 x0] 3)).grown hgrow1 (blk_ne_own K9.out OV9.out (by decide)))
              have HAP2 := Lib.hid (apart_grow (v := .slice AV pl cV) (OU9.out.alloc (.cells #[.int .i64 x0] 3)) hap.out hat1)
              clear hown1 hgrow1 hat1 hap OV9 OU9 OR9 HB9 K89 K9
              go_upto_region 14 with fail
              clear x0c x1c x2c r1c r2c
              have x1c := KA10.out.cell 1 (v := .int .i64 x1) rfl
              have x2c := KA10.out.cell 2 (v := .int .i64 x2) rfl
              have x3c := KA10.out.cell 3 (v := .int .i64 x3) rfl
              have x4c := KA10.out.cell 4 (v := .int .i64 x4) rfl
              go_wp2_with fail
              refine (CH.out _).mono ?_
              rintro e9 w11 ⟨rfl, hb11⟩
              have OV11 := Lib.hid (own_below OV10.out hb11)
              have OU11 := Lib.hid (own_below OU10.out hb11)
              have OR11 := Lib.hid (own_below OR10.out hb11)
              have HB11 := Lib.hid (HB10.out.trans (hb11.mono HB10.out.size))
              have KA11 := Lib.hid (KA10.out.below hb11)
              have KB11 := Lib.hid (KB10.out.below hb11)
              have x0c := KA11.out.cell 0 (v := .int .i64 x0) rfl
              clear hb11 OV10 OU10 OR10 HB10 KA10 KB10 x1c x2c x3c x4c
              obtain ⟨u1, w12, hrun2, hown2, hgrow2, _, hat2⟩ := run_append_own_at (P := Try.prog) (w11.alloc (.cells #[.int .i64 x0] 3)) w3.heap.size 42 42 3 i0 _ 1 8 Try.underlying42 hi hz0 hz1 hz2 rfl (by decide) _ _ _ (OU11.out.alloc (.cells #[.int .i64 x0] 3))
                ⟨w11.heap.size, 0, none⟩ 1 1 [.int .i64 x0] rfl (cells_new' _ _ _ _ rfl _ rfl) (fun u hu => zc_one x0 u hu) (by unfold maxLen; omega) (by omega) (by have := HB11.out.size; simp; omega)
              obtain ⟨AU2, cU2, rfl, hcU2, hmU2⟩ := own_slice hown2
              have OU12 := Lib.hid hown2
              have OV12 := Lib.hid ((OV11.out.alloc (.cells #[.int .i64 x0] 3)).kept hgrow2 (.inr HAP2.out))
              have OR12 := Lib.hid ((OR11.out.alloc (.cells #[.int .i64 x0] 3)).kept hgrow2 (own_ne OR11.out OU11.out (by decide)))
              have HB12 := Lib.hid ((HB11.out.alloc HB11.out.size (.cells #[.int .i64 x0] 3)).grown hgrow2 (by have := HB11.out.size; simp; omega) (fun j hj => own_from OU11.out j hj))
              have KA12 := Lib.hid ((KA11.out.alloc (.cells #[.int .i64 x0] 3)).grown hgrow2 (blk_ne_own KA11.out OU11.out (by decide)))
              have KB12 := Lib.hid ((KB11.out.alloc (.cells #[.int .i64 x0] 3)).grown hgrow2 (blk_ne_own KB11.out OU11.out (by decide)))
              have HAP3 := Lib.hid (Ne.symm (apart_grow (v := .slice AU hl cU) (OV11.out.alloc (.cells #[.int .i64 x0] 3)) (fun e => HAP2.out e.symm) hat2))
              clear hown2 hgrow2 hat2 HAP2 OV11 OU11 OR11 HB11 KA11 KB11
              go_upto_region 16 with fail
              clear x0c
              have x1c := KA12.out.cell 1 (v := .int .i64 x1) rfl
              have x2c := KA12.out.cell 2 (v := .int .i64 x2) rfl
              have x3c := KA12.out.cell 3 (v := .int .i64 x3) rfl
              have x4c := KA12.out.cell 4 (v := .int .i64 x4) rfl
              have r1c := KB12.out.cell 0 (v := .int .i64 r1) rfl
              have r2c := KB12.out.cell 1 (v := .int .i64 r2) rfl
              have r3c := KB12.out.cell 2 (v := .int .i64 r3) rfl
              have r4c := KB12.out.cell 3 (v := .int .i64 r4) rfl
              have hrunE := eqR_ne x1 x2 x3 x4 r1 r2 r3 r4 HNE.out
              go_wp2
              go_roundw
              case rel => exact ⟨k + 1, false, by omega, rfl, by go_num, Lib.hid (by rw [HN1.out, List.length_append, zcs_snoc, ← HP.out]; exact OV12.out), Lib.hid (by rw [HN2.out, List.length_append, zcs_snoc, ← HH.out]; exact OU12.out), HAP3, OR12, Lib.hid (by rw [HN3.out]), HB12⟩
              case measure => simp [intOf]; omega
            | false =>
              replace HN2 := Lib.hid (show idsL (R2.take (k + 1)) (htF px py) = H from HN2.out.trans (List.append_nil H))
              obtain ⟨v1, w10, hrun, hown1, hgrow1, _, hat1⟩ := run_append_own_at (P := Try.prog) (W9.alloc (.cells #[.int .i64 x0] 3)) w3.heap.size 42 42 3 i0 _ 1 8 Try.underlying42 hi hz0 hz1 hz2 rfl (by decide) _ _ _ (OV9.out.alloc (.cells #[.int .i64 x0] 3))
                ⟨W9.heap.size, 0, none⟩ 1 1 [.int .i64 x0] rfl (cells_new' _ _ _ _ rfl _ rfl) (fun u hu => zc_one x0 u hu) (by unfold maxLen; omega) (by omega) (by have := HB9.out.size; simp; omega)
              obtain ⟨AV2, cV2, rfl, hcV2, hmV2⟩ := own_slice hown1
              have OV10 := Lib.hid hown1
              have OU10 := Lib.hid ((OU9.out.alloc (.cells #[.int .i64 x0] 3)).kept hgrow1 (.inr (fun e => hap.out e.symm)))
              have OR10 := Lib.hid ((OR9.out.alloc (.cells #[.int .i64 x0] 3)).kept hgrow1 (own_ne OR9.out OV9.out (by decide)))
              have HB10 := Lib.hid ((HB9.out.alloc HB9.out.size (.cells #[.int .i64 x0] 3)).grown hgrow1 (by have := HB9.out.size; simp; omega) (fun j hj => own_from OV9.out j hj))
              have KA10 := Lib.hid ((K89.out.alloc (.cells #[.int .i64 x0] 3)).grown hgrow1 (blk_ne_own K89.out OV9.out (by decide)))
              have KB10 := Lib.hid ((K9.out.alloc (.cells #[.int .i64 x0] 3)).grown hgrow1 (blk_ne_own K9.out OV9.out (by decide)))
              have HAP2 := Lib.hid (apart_grow (v := .slice AV pl cV) (OU9.out.alloc (.cells #[.int .i64 x0] 3)) hap.out hat1)
              clear hown1 hgrow1 hat1 hap OV9 OU9 OR9 HB9 K89 K9
              go_upto_region 14 with fail
              clear x0c x1c x2c r1c r2c
              have x1c := KA10.out.cell 1 (v := .int .i64 x1) rfl
              have x2c := KA10.out.cell 2 (v := .int .i64 x2) rfl
              have x3c := KA10.out.cell 3 (v := .int .i64 x3) rfl
              have x4c := KA10.out.cell 4 (v := .int .i64 x4) rfl
              go_wp2_with fail
              refine (CH.out _).mono ?_
              rintro e9 w11 ⟨rfl, hb11⟩
              have OV11 := Lib.hid (own_below OV10.out hb11)
              have OU11 := Lib.hid (own_below OU10.out hb11)
              have OR11 := Lib.hid (own_below OR10.out hb11)
              have HB11 := Lib.hid (HB10.out.trans (hb11.mono HB10.out.size))
              have KA11 := Lib.hid (KA10.out.below hb11)
              have KB11 := Lib.hid (KB10.out.below hb11)
              have x0c := KA11.out.cell 0 (v := .int .i64 x0) rfl
              clear hb11 OV10 OU10 OR10 HB10 KA10 KB10 x1c x2c x3c x4c
              have OV12 := Lib.hid OV11.out
              have OU12 := Lib.hid OU11.out
              have OR12 := Lib.hid OR11.out
              have HB12 := Lib.hid HB11.out
              have KA12 := Lib.hid KA11.out
              have KB12 := Lib.hid KB11.out
              have HAP3 := Lib.hid HAP2.out
              clear HAP2 OV11 OU11 OR11 HB11 KA11 KB11
              go_upto_region 16 with fail
              clear x0c
              have x1c := KA12.out.cell 1 (v := .int .i64 x1) rfl
              have x2c := KA12.out.cell 2 (v := .int .i64 x2) rfl
              have x3c := KA12.out.cell 3 (v := .int .i64 x3) rfl
              have x4c := KA12.out.cell 4 (v := .int .i64 x4) rfl
              have r1c := KB12.out.cell 0 (v := .int .i64 r1) rfl
              have r2c := KB12.out.cell 1 (v := .int .i64 r2) rfl
              have r3c := KB12.out.cell 2 (v := .int .i64 r3) rfl
              have r4c := KB12.out.cell 3 (v := .int .i64 r4) rfl
              have hrunE := eqR_ne x1 x2 x3 x4 r1 r2 r3 r4 HNE.out
              go_wp2
              go_roundw
              case rel => exact ⟨k + 1, false, by omega, rfl, by go_num, Lib.hid (by rw [HN1.out, List.length_append, zcs_snoc, ← HP.out]; exact OV12.out), Lib.hid (by rw [HN2.out, ← HH.out]; exact OU12.out), HAP3, OR12, Lib.hid (by rw [HN3.out]), HB12⟩
              case measure => simp [intOf]; omega
    · obtain rfl : k = q := by omega
      have HT : Hid (R2.take k = R2) := List.take_of_length_le (by have := HQ.out; omega)
      rw [HT.out] at hov hou hcV hcU ⊢
      have HBE : Hid (decide (R2 = S') = b) := by show _ = _; rw [hbd.out, HQ.out]; exact (smB_all HR.out HS.out).symm
      have hq15 : k ≤ 15 := by have := HRL.out; have := HXL.out; omega
      have CM := Lib.hid (fun W (hW : Below w3.heap.size w3 W) => moved_any A5 A7 qx c5 qy c7 X Y R2 W HQX.out HQY.out (by have := HXL.out; omega) (by have := HYL.out; omega) HN5.out (HK3.out.a1.below hW) (HK3.out.a3.below hW) HR.out HOK1.out HOK2.out)
      have CH := Lib.hid (fun W (hW : Below w3.heap.size w3 W) => hit_any A5 qx c5 X R2 px py W HQX.out (by have := HXL.out; omega) HN5.out (HK3.out.a1.below hW) HR.out)
      have CS := Lib.hid (fun W (hW : Below w3.heap.size w3 W) => snapSame_any A5 A7 qx c5 qy c7 X Y R2 S' W HQX.out HQY.out (by have := HXL.out; omega) (by have := HYL.out; omega) HN5.out HN7.out (HK3.out.a1.below hW) (HK3.out.a3.below hW) HR.out HS.out)
      rw [HBE.out] at CS
      have hl1 := idsL_len R2 (mvF Y)
      have hl2 := idsL_len R2 (htF px py)
      have HL1 := Lib.hid (show (idsL R2 (mvF Y)).length ≤ 15 by have := HQ.out; omega)
      have HL2 := Lib.hid (show (idsL R2 (htF px py)).length ≤ 15 by have := HQ.out; omega)
      clear hl1 hl2
      have CM : Hid (∀ W (_ : Below w3.heap.size w3 W), Calls Try.prog 20 #[.slice A5 qx c5, .slice A7 qy c7] W fun e w' => ∃ v, e = .returned v ∧ w'.ownsRow W.heap.size 3 1 v (idsL R2 (mvF Y)).length ((idsL R2 (mvF Y)).flatMap zc) ∧ Below W.heap.size W w') := CM
      have CH : Hid (∀ W (_ : Below w3.heap.size w3 W), Calls Try.prog 21 #[.slice A5 qx c5, .int .i64 px, .int .i64 py] W fun e w' => ∃ v, e = .returned v ∧ w'.ownsRow W.heap.size 3 1 v (idsL R2 (htF px py)).length ((idsL R2 (htF px py)).flatMap zc) ∧ Below W.heap.size W w') := CH
      generalize idsL R2 (mvF Y) = P at *
      generalize idsL R2 (htF px py) = H at *
      obtain ⟨pl, hpl⟩ : ∃ p, p = P.length := ⟨_, rfl⟩
      obtain ⟨hl, hhl⟩ : ∃ p, p = H.length := ⟨_, rfl⟩
      have HPL := Lib.hid hpl
      have HHL := Lib.hid hhl
      rw [← hpl] at hov hcV CM HL1 ⊢
      rw [← hhl] at hou hcU CH HL2 ⊢
      clear hpl hhl hap hor hbd
      have HAV := Lib.hid (And.intro (At.own hov.out) (At.own hou.out))
      clear hov hou
      go_wp2_with fail
      refine (CM.out _ hbel.out).mono ?_
      rintro e9 w8 ⟨v8, rfl, hv8, hb8⟩
      obtain ⟨Ac, cc, rfl, _, _, hat8⟩ := at_of_own' hv8
      have HB8 := Lib.hid (hbel.out.trans (hb8.mono hbel.out.size))
      have HAV8 := Lib.hid (And.intro (HAV.out.1.below hb8) (HAV.out.2.below hb8))
      have CN := Lib.hid (numbersM_any Ac AV pl cc cV P w8 HPL.out (by have := HL1.out; omega) hat8 HAV8.out.1)
      clear hv8 hb8 hat8 HAV hbel CM
      go_wp2_with fail
      refine CN.out.mono ?_
      rintro e9 w9 ⟨rfl, q9, rfl⟩
      obtain ⟨W9, hW9⟩ : ∃ W, W = w8.drewN q9 := ⟨_, rfl⟩
      have HB9 := Lib.hid (show Below w3.heap.size w3 W9 by rw [hW9]; exact drewN_belowS HB8.out q9)
      have HAV9 := Lib.hid (show At W9 AU (H.flatMap zc) by rw [hW9]; exact HAV8.out.2.drewN q9)
      rw [← hW9]
      clear hW9 CN HAV8 HB8
      go_wp2_with fail
      refine (CH.out _ HB9.out).mono ?_
      rintro e9 w10 ⟨v10, rfl, hv10, hb10⟩
      obtain ⟨Ad, cd, rfl, _, _, hat10⟩ := at_of_own' hv10
      have HB10 := Lib.hid (HB9.out.trans (hb10.mono HB9.out.size))
      have CN := Lib.hid (numbersM_any Ad AU hl cd cU H w10 HHL.out (by have := HL2.out; omega) hat10 (HAV9.out.below hb10))
      clear hv10 hb10 hat10 HAV9 HB9 CH
      go_wp2_with fail
      refine CN.out.mono ?_
      rintro e9 w11 ⟨rfl, q11, rfl⟩
      obtain ⟨W11, hW11⟩ : ∃ W, W = w10.drewN q11 := ⟨_, rfl⟩
      have HB11 := Lib.hid (show Below w3.heap.size w3 W11 by rw [hW11]; exact drewN_belowS HB10.out q11)
      rw [← hW11]
      clear hW11 CN HB10
      go_wp2_with fail
      refine (CS.out _ HB11.out).mono ?_
      rintro e9 w12 ⟨rfl, hb12⟩
      have HB12 := Lib.hid (HK3.out.k.trans ((HB11.out.trans (hb12.mono HB11.out.size)).mono HK3.out.k.size))
      clear hb12
      go_wp2
      go_ret
      exact ⟨by simp, HB12.out⟩
end Go.Proofs.Ytdaohjimfgdmbaa
