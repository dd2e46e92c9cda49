/- The walk of RectSnaps. -/
import Derived.Test.YtdaohjimfgdmbaaSpOpen
import Derived.Test.YtdaohjimfgdmbaaSpGet2
import Derived.Test.YtdaohjimfgdmbaaRcW4
namespace Go.Proofs.Ytdaohjimfgdmbaa
open Go.RowKit Sn
/-- what a statement over one list of entries keeps: both its lists. -/
structure RsK (w W : World) (A7 A8 : Option Addr) (X : List En) : Prop where
  a : At W A7 (ecs X)
  b : At W A8 (ecs X)
  k : Below w.heap.size w W
theorem RsK.below {w W W' : World} {A7 A8 : Option Addr} {X : List En} (h : RsK w W A7 A8 X) (hb : Below W.heap.size W W') : RsK w W' A7 A8 X := ⟨h.a.below hb, h.b.below hb, h.k.trans (hb.mono h.k.size)⟩
theorem RsK.drewN {w W : World} {A7 A8 : Option Addr} {X : List En} (h : RsK w W A7 A8 X) (q : Nat) : RsK w (W.drewN q) A7 A8 X := ⟨h.a, h.b, drewN_belowS h.k q⟩
set_option maxHeartbeats 4000000 in
set_option maxRecDepth 100000 in
theorem rectSnaps_any (w : World) (v0 v1 : Value) (h0 : EnsArg w v0) (h1 : IntArg w v1) :
    Calls Try.prog 3 #[v0, v1] w fun e w' => e = .returned (.bool true) ∧ Below w.heap.size w w' := by
  obtain ⟨A, n, c, L, rfl, hn, hnc, hcm, hat, _, hA0⟩ := h0
  obtain ⟨id, rfl, _⟩ := h1
  obtain ⟨X, hX⟩ : ∃ X, X = L.take 20 := ⟨_, rfl⟩
  obtain ⟨r, hr⟩ := snap_ex X
  have hXl : X.length ≤ 20 := by rw [hX, List.length_take]; omega
  have COwn : Hid (∀ W, Below w.heap.size w W → Calls Try.prog 11 #[.slice A n c, .int .i64 20] W fun e w' => ∃ v u, e = .returned (.tuple #[v, u]) ∧ w'.ownsRow W.heap.size 74 5 v X.length (ecs X) ∧ w'.ownsRow W.heap.size 44 5 u X.length (ecs X) ∧ Below W.heap.size W w') := fun W hW => by
    have := own13_any A n c 20 L W hn (by omega) (by omega) (hat.below hW)
    rw [← hX] at this
    exact this
  have HR := Lib.hid hr
  have HRL := Lib.hid (is_len hr)
  have HXL := Lib.hid hXl
  clear hX hr hn hat hnc hcm hA0 hXl
  obtain ⟨q, hq⟩ : ∃ q, q = X.length := ⟨_, rfl⟩
  have HQ := Lib.hid hq
  rw [← hq] at COwn HXL HRL
  have hq20 : q ≤ 20 := HXL.out
  clear hq
  cases hg : lastAt En.id X id with
  | none =>
    have CG := Lib.hid (fun A c W (ha : At W A (ecs X)) => snapGet_any A q c X id W HQ.out (by have := HXL.out; omega) ha)
    have CR := Lib.hid (fun A c W (ha : At W A (ecs X)) => rget_any A q c X id W HQ.out (by have := HXL.out; omega) ha)
    rw [hg] at CG CR
    unfold gotV at CG CR
    dsimp only at CG CR
    clear hg
    go_enter Try.func3, Try.ntmps3
    go_wp2_with fail
    refine (awake13_any _).mono ?_
    rintro e w1 ⟨rfl, hb1⟩
    have HB1 := Lib.hid hb1
    clear hb1
    go_wp2_with fail
    refine (COwn.out _ HB1.out).mono ?_
    rintro e w2 ⟨v, u, rfl, hv, hu, hb2⟩
    obtain ⟨A7, c7, rfl, hc7, hm7, hat7⟩ := at_of_own' hv
    obtain ⟨A8, c8, rfl, hc8, hm8, hat8⟩ := at_of_own' hu
    have HN7 := Lib.hid (own_addr hv)
    have HK := Lib.hid (show RsK w w2 A7 A8 X from ⟨hat7, hat8, HB1.out.trans (hb2.mono HB1.out.size)⟩)
    clear hv hu hb2 hat7 hat8
    go_wp2_with fail
    refine (CG.out A7 c7 _ HK.out.a).mono ?_
    rintro e w3 ⟨rfl, hb3⟩
    obtain ⟨V3, hV3⟩ : ∃ V, V = w3.alloc (.cells #[.int .i64 0, .int .i64 0, .int .i64 0, .int .i64 0] 29) := ⟨_, rfl⟩
    have HK3 := Lib.hid (show RsK w V3 A7 A8 X by rw [hV3]; exact (HK.out.below hb3).below (below_alloc _ _))
    have B3 : Blk V3 w3.heap.size 29 #[.int .i64 0, .int .i64 0, .int .i64 0, .int .i64 0] := by rw [hV3]; exact Blk.new w3 _ _
    have HV3 := Lib.hid hV3
    obtain ⟨g3, hg3⟩ : ∃ g, g = w3.heap.size := ⟨_, rfl⟩
    rw [← hg3] at B3
    have HG3 := Lib.hid hg3
    have HB3 := Lib.hid B3
    clear HK hb3 hV3 hg3 B3
    go_upto_region 5 with fail
    rw [← HV3.out, ← HG3.out]
    go_wp2_with fail
    refine (CR.out A8 c8 _ HK3.out.b).mono ?_
    rintro e w4 ⟨rfl, hb4⟩
    obtain ⟨V4, hV4⟩ : ∃ V, V = w4.alloc (.cells #[.int .i64 0, .int .i64 0, .int .i64 0, .int .i64 0] 32) := ⟨_, rfl⟩
    have HK4 := Lib.hid (show RsK w V4 A7 A8 X by rw [hV4]; exact (HK3.out.below hb4).below (below_alloc _ _))
    have B4 : Blk V4 w4.heap.size 32 #[.int .i64 0, .int .i64 0, .int .i64 0, .int .i64 0] := by rw [hV4]; exact Blk.new w4 _ _
    have B43 : Blk V4 g3 29 #[.int .i64 0, .int .i64 0, .int .i64 0, .int .i64 0] := by rw [hV4]; exact (HB3.out.below hb4).alloc _
    have HV4 := Lib.hid hV4
    obtain ⟨g4, hg4⟩ : ∃ g, g = w4.heap.size := ⟨_, rfl⟩
    rw [← hg4] at B4
    have HG4 := Lib.hid hg4
    have HB4 := Lib.hid (And.intro B43 B4)
    clear HK3 HB3 hb4 hV4 hg4 B4 B43
    go_upto_region 6 with fail
    rw [← HV4.out, ← HG4.out]
    go_wp2_with fail
    refine (snapOf_is A7 q c7 X r _ HQ.out (by have := HXL.out; omega) HN7.out HK4.out.a HR.out).mono ?_
    rintro e w5 ⟨A5, c5, rfl, hat5, hA5, hb5⟩
    have HK5 := Lib.hid (HK4.out.below hb5)
    have HB5 := Lib.hid (And.intro (HB4.out.1.below hb5) (HB4.out.2.below hb5))
    have HAT5 := Lib.hid hat5
    clear HK4 HB4 hat5 hb5 hA5
    go_wp2_with fail
    refine (rsnap_any A8 q c8 X _ HQ.out (by have := HXL.out; omega) HK5.out.b).mono ?_
    rintro e w6 ⟨r', v6, rfl, hr', hv6, _, hb6⟩
    obtain rfl : r = r' := HR.out.uniq hr'
    obtain ⟨A6, c6, rfl, _, _, hat6⟩ := at_of_own' hv6
    have CI := Lib.hid (isE_any A5 A6 r.length c5 r.length c6 r r w6 rfl rfl (by have := HRL.out; omega) (by have := HRL.out; omega) (HAT5.out.below hb6) hat6)
    rw [show decide (r = r) = true from decide_eq_true rfl] at CI
    have HK6 := Lib.hid (HK5.out.below hb6)
    have HB6 := Lib.hid (And.intro (HB5.out.1.below hb6) (HB5.out.2.below hb6))
    clear HK5 HB5 HAT5 hat6 hb6 hv6 hr'
    go_wp2_with fail
    refine CI.out.mono ?_
    rintro e w7 ⟨rfl, q7, rfl⟩
    obtain ⟨V7, hV7⟩ : ∃ V, V = w6.drewN q7 := ⟨_, rfl⟩
    have HK7 := Lib.hid (show RsK w V7 A7 A8 X by rw [hV7]; exact HK6.out.drewN q7)
    have HB7 := Lib.hid (show Blk V7 g3 29 #[.int .i64 0, .int .i64 0, .int .i64 0, .int .i64 0] ∧ Blk V7 g4 32 #[.int .i64 0, .int .i64 0, .int .i64 0, .int .i64 0] by rw [hV7]; exact ⟨HB6.out.1.drewN _, HB6.out.2.drewN _⟩)
    rw [← hV7]
    have c30 := HB7.out.1.cell 0 rfl
    have c31 := HB7.out.1.cell 1 rfl
    have c32 := HB7.out.1.cell 2 rfl
    have c33 := HB7.out.1.cell 3 rfl
    have c40 := HB7.out.2.cell 0 rfl
    have c41 := HB7.out.2.cell 1 rfl
    have c42 := HB7.out.2.cell 2 rfl
    have c43 := HB7.out.2.cell 3 rfl
    clear HK6 HB6 hV7 CI
    go_wp2_with fail
    refine (snapOf_is A7 q c7 X r _ HQ.out (by have := HXL.out; omega) HN7.out HK7.out.a HR.out).mono ?_
    rintro e w8 ⟨A9, c9, rfl, hat9, hA9, hb8⟩
    have HK8 := Lib.hid (HK7.out.below hb8)
    have CS := Lib.hid (snapSame_any A7 A9 q c7 r.length c9 X r r r w8 HQ.out rfl (by have := HXL.out; omega) (by have := HRL.out; omega) HN7.out hA9 HK8.out.a hat9 HR.out HR.out.again)
    rw [show decide (r = r) = true from decide_eq_true rfl] at CS
    clear HK7 hat9 hb8 hA9 c30 c31 c32 c33 c40 c41 c42 c43
    go_wp2_with fail
    refine CS.out.mono ?_
    rintro e w9 ⟨rfl, hb9⟩
    have HK9 := Lib.hid (HK8.out.below hb9)
    clear hb9
    go_wp2
    go_ret
    exact ⟨rfl, HK9.out.k⟩
  | some e =>
    obtain ⟨x0, x1, x2, x3, x4⟩ := e
    have CG := Lib.hid (fun A c W (ha : At W A (ecs X)) => snapGet_any A q c X id W HQ.out (by have := HXL.out; omega) ha)
    have CR := Lib.hid (fun A c W (ha : At W A (ecs X)) => rget_any A q c X id W HQ.out (by have := HXL.out; omega) ha)
    rw [hg] at CG CR
    unfold gotV at CG CR
    dsimp only at CG CR
    clear hg
    go_enter Try.func3, Try.ntmps3
    go_wp2_with fail
    refine (awake13_any _).mono ?_
    rintro e w1 ⟨rfl, hb1⟩
    have HB1 := Lib.hid hb1
    clear hb1
    go_wp2_with fail
    refine (COwn.out _ HB1.out).mono ?_
    rintro e w2 ⟨v, u, rfl, hv, hu, hb2⟩
    obtain ⟨A7, c7, rfl, hc7, hm7, hat7⟩ := at_of_own' hv
    obtain ⟨A8, c8, rfl, hc8, hm8, hat8⟩ := at_of_own' hu
    have HN7 := Lib.hid (own_addr hv)
    have HK := Lib.hid (show RsK w w2 A7 A8 X from ⟨hat7, hat8, HB1.out.trans (hb2.mono HB1.out.size)⟩)
    clear hv hu hb2 hat7 hat8
    go_wp2_with fail
    refine (CG.out A7 c7 _ HK.out.a).mono ?_
    rintro e w3 ⟨rfl, hb3⟩
    obtain ⟨V3, hV3⟩ : ∃ V, V = w3.alloc (.cells #[.int .i64 x1, .int .i64 x2, .int .i64 x3, .int .i64 x4] 29) := ⟨_, rfl⟩
    have HK3 := Lib.hid (show RsK w V3 A7 A8 X by rw [hV3]; exact (HK.out.below hb3).below (below_alloc _ _))
    have B3 : Blk V3 w3.heap.size 29 #[.int .i64 x1, .int .i64 x2, .int .i64 x3, .int .i64 x4] := by rw [hV3]; exact Blk.new w3 _ _
    have HV3 := Lib.hid hV3
    obtain ⟨g3, hg3⟩ : ∃ g, g = w3.heap.size := ⟨_, rfl⟩
    rw [← hg3] at B3
    have HG3 := Lib.hid hg3
    have HB3 := Lib.hid B3
    clear HK hb3 hV3 hg3 B3
    go_upto_region 5 with fail
    rw [← HV3.out, ← HG3.out]
    go_wp2_with fail
    refine (CR.out A8 c8 _ HK3.out.b).mono ?_
    rintro e w4 ⟨rfl, hb4⟩
    obtain ⟨V4, hV4⟩ : ∃ V, V = w4.alloc (.cells #[.int .i64 x1, .int .i64 x2, .int .i64 x3, .int .i64 x4] 32) := ⟨_, rfl⟩
    have HK4 := Lib.hid (show RsK w V4 A7 A8 X by rw [hV4]; exact (HK3.out.below hb4).below (below_alloc _ _))
    have B4 : Blk V4 w4.heap.size 32 #[.int .i64 x1, .int .i64 x2, .int .i64 x3, .int .i64 x4] := by rw [hV4]; exact Blk.new w4 _ _
    have B43 : Blk V4 g3 29 #[.int .i64 x1, .int .i64 x2, .int .i64 x3, .int .i64 x4] := by rw [hV4]; exact (HB3.out.below hb4).alloc _
    have HV4 := Lib.hid hV4
    obtain ⟨g4, hg4⟩ : ∃ g, g = w4.heap.size := ⟨_, rfl⟩
    rw [← hg4] at B4
    have HG4 := Lib.hid hg4
    have HB4 := Lib.hid (And.intro B43 B4)
    clear HK3 HB3 hb4 hV4 hg4 B4 B43
    go_upto_region 6 with fail
    rw [← HV4.out, ← HG4.out]
    go_wp2_with fail
    refine (snapOf_is A7 q c7 X r _ HQ.out (by have := HXL.out; omega) HN7.out HK4.out.a HR.out).mono ?_
    rintro e w5 ⟨A5, c5, rfl, hat5, hA5, hb5⟩
    have HK5 := Lib.hid (HK4.out.below hb5)
    have HB5 := Lib.hid (And.intro (HB4.out.1.below hb5) (HB4.out.2.below hb5))
    have HAT5 := Lib.hid hat5
    clear HK4 HB4 hat5 hb5 hA5
    go_wp2_with fail
    refine (rsnap_any A8 q c8 X _ HQ.out (by have := HXL.out; omega) HK5.out.b).mono ?_
    rintro e w6 ⟨r', v6, rfl, hr', hv6, _, hb6⟩
    obtain rfl : r = r' := HR.out.uniq hr'
    obtain ⟨A6, c6, rfl, _, _, hat6⟩ := at_of_own' hv6
    have CI := Lib.hid (isE_any A5 A6 r.length c5 r.length c6 r r w6 rfl rfl (by have := HRL.out; omega) (by have := HRL.out; omega) (HAT5.out.below hb6) hat6)
    rw [show decide (r = r) = true from decide_eq_true rfl] at CI
    have HK6 := Lib.hid (HK5.out.below hb6)
    have HB6 := Lib.hid (And.intro (HB5.out.1.below hb6) (HB5.out.2.below hb6))
    clear HK5 HB5 HAT5 hat6 hb6 hv6 hr'
    go_wp2_with fail
    refine CI.out.mono ?_
    rintro e w7 ⟨rfl, q7, rfl⟩
    obtain ⟨V7, hV7⟩ : ∃ V, V = w6.drewN q7 := ⟨_, rfl⟩
    have HK7 := Lib.hid (show RsK w V7 A7 A8 X by rw [hV7]; exact HK6.out.drewN q7)
    have HB7 := Lib.hid (show Blk V7 g3 29 #[.int .i64 x1, .int .i64 x2, .int .i64 x3, .int .i64 x4] ∧ Blk V7 g4 32 #[.int .i64 x1, .int .i64 x2, .int .i64 x3, .int .i64 x4] by rw [hV7]; exact ⟨HB6.out.1.drewN _, HB6.out.2.drewN _⟩)
    rw [← hV7]
    have c30 := HB7.out.1.cell 0 rfl
    have c31 := HB7.out.1.cell 1 rfl
    have c32 := HB7.out.1.cell 2 rfl
    have c33 := HB7.out.1.cell 3 rfl
    have c40 := HB7.out.2.cell 0 rfl
    have c41 := HB7.out.2.cell 1 rfl
    have c42 := HB7.out.2.cell 2 rfl
    have c43 := HB7.out.2.cell 3 rfl
    clear HK6 HB6 hV7 CI
    go_wp2_with fail
    refine (snapOf_is A7 q c7 X r _ HQ.out (by have := HXL.out; omega) HN7.out HK7.out.a HR.out).mono ?_
    rintro e w8 ⟨A9, c9, rfl, hat9, hA9, hb8⟩
    have HK8 := Lib.hid (HK7.out.below hb8)
    have CS := Lib.hid (snapSame_any A7 A9 q c7 r.length c9 X r r r w8 HQ.out rfl (by have := HXL.out; omega) (by have := HRL.out; omega) HN7.out hA9 HK8.out.a hat9 HR.out HR.out.again)
    rw [show decide (r = r) = true from decide_eq_true rfl] at CS
    clear HK7 hat9 hb8 hA9 c30 c31 c32 c33 c40 c41 c42 c43
    go_wp2_with fail
    refine CS.out.mono ?_
    rintro e w9 ⟨rfl, hb9⟩
    have HK9 := Lib.hid (HK8.out.below hb9)
    clear hb9
    go_wp2
    go_ret
    exact ⟨rfl, HK9.out.k⟩
end Go.Proofs.Ytdaohjimfgdmbaa
