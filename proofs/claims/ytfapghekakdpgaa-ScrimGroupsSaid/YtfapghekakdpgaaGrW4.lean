/- Contracts of a group's plan: New, Back, Kept, Ghosts. -/
import Derived.Test.YtfapghekakdpgaaGrW3
import Derived.OrdersHeld
namespace Go.Proofs.Ytfapghekakdpgaa
open Go.RowKit Gr Go.Maps
set_option linter.unusedVariables false
theorem row_ne_blk {w : World} {base s n : Nat} {e t : TypeId} {v : Value} {xs : List Value} {g : Nat} {cs : Array Value} (h : w.ownsRow base e s v n xs) (hb : Blk w g t cs) (hne : e ≠ t) : v.ownBlock ≠ some g := by
  intro q
  rcases h.2 with ⟨rfl, _⟩ | ⟨g', c, cur, rfl, _, hh, _⟩
  · cases q
  · injection q with q
    subst q
    rw [show w.heap[g']? = _ from hb] at hh
    injection hh with hh
    injection hh with _ h2 _
    exact hne h2.symm
set_option maxHeartbeats 1000000 in
theorem new_any (v1 : Value) (A : Option Addr) (m c : Nat) (T : List Int) (w : World) (hm : m = T.length) (h1 : m ≤ 1000) (ha : At w A (iv T)) :
    Calls Try.prog 18 #[.agg #[v1, .slice A m c]] w fun e w' => ∃ v, e = .returned v ∧ w'.ownsRow w.heap.size 3 1 v (wh m (newQ T)).length (nv (wh m (newQ T))) ∧ Below w.heap.size w w' := by
  obtain ⟨b0, hb0⟩ : ∃ b, b = w.heap.size := ⟨_, rfl⟩
  obtain ⟨U, hU⟩ : ∃ W, W = w.alloc (.cells #[v1, .slice A m c] 31) := ⟨_, rfl⟩
  have hbU : Below w.heap.size w U := by rw [hU]; exact below_alloc w _
  have HK := Lib.hid (show Blk U b0 31 #[v1, .slice A m c] by rw [hU, hb0]; exact Blk.new w _ _)
  have HA := Lib.hid (ha.below hbU)
  have C := Lib.hid (where_new m b0 (newQ T) U (by omega) (fun W i hi hb => new1_any i b0 A m c T W hi hm ((HK.out.below hb).cell 1 rfl) (HA.out.below hb)))
  have HU := Lib.hid hU
  have HG := Lib.hid hb0
  have HB := Lib.hid hbU
  have r1 := HK.out.cell 1 (v := .slice A m c) rfl
  clear hU hb0 hbU ha hm
  go_enter Try.func18, Try.ntmps18
  go_upto_region 1 with fail
  rw [← HU.out, ← HG.out]
  go_wp2_with fail
  refine C.out.mono ?_
  rintro e w1 ⟨v, rfl, ho, hb⟩
  obtain ⟨A5, c5, rfl, _, _⟩ := own_slice ho
  have HO := Lib.hid ho
  have HB1 := Lib.hid (HB.out.trans (hb.mono HB.out.size))
  have hs := HB.out.size
  clear ho hb r1 C
  go_wp2
  go_ret
  exact ⟨.slice A5 _ c5, rfl, own_mono HO.out hs, HB1.out⟩
set_option maxHeartbeats 2000000 in
theorem taking_back (i bp bo bf b3 : Nat) (v1 : Value) (A : Option Addr) (n c : Nat) (L : List Gk) (B : Option Addr) (m d : Nat) (T : List Int) (w : World) (hi : i < m) (hm : m = T.length) (hn : n = L.length)
    (hp : Blk w bp 31 #[v1, .slice B m d]) (ho : Blk w bo 25 #[.slice A n c]) (hf : Blk w bf 83 #[.func (.func 45) #[] #[.pointer (some ⟨b3, 0, none⟩)]]) (h3 : Blk w b3 25 #[.slice A n c]) (ha : At w A (gcs L)) (hb : At w B (iv T)) :
    Calls Try.prog 62 #[.int .i64 i, .pointer (some ⟨bp, 0, none⟩), .pointer (some ⟨bo, 0, none⟩), .pointer (some ⟨bf, 0, none⟩)] w fun e w' => e = .returned (.bool (backQ L T i)) ∧ Below w.heap.size w w' := by
  obtain ⟨b1, o1, rfl, _, hc1⟩ := hb.one (iv_at T i (by omega))
  have r1 := hp.cell 1 (v := .slice (some ⟨b1, o1, none⟩) m d) rfl
  have r2 := ho.cell 0 (v := .slice A n c) rfl
  have r3 := hf.cell 0 (v := .func (.func 45) #[] #[.pointer (some ⟨b3, 0, none⟩)]) rfl
  have C := Lib.hid (fun (j : Nat) (hj : j < n) => back1_any j b3 A n c L w hj hn (h3.cell 0 rfl) ha)
  unfold backQ
  rw [← hn]
  generalize ats T i = x at *
  clear ha hb hn hm hp ho hf h3
  by_cases h0 : 0 ≤ x
  · obtain ⟨j, rfl⟩ : ∃ j : Nat, x = (j : Int) := ⟨x.toNat, by omega⟩
    by_cases hj : j < n
    · have CJ := Lib.hid (C.out j hj)
      rw [show ((j : Int)).toNat = j by omega, decide_eq_true (p := 0 ≤ (j : Int)) (by omega), decide_eq_true (p := (j : Int) < (n : Int)) (by omega), Bool.true_and, Bool.true_and]
      generalize ((gk L j).2) = g at *
      clear C
      go_enter Try.func62, Try.ntmps62
      go_wp2_with fail
      refine CJ.out.mono ?_
      rintro e w1 ⟨rfl, hb⟩
      go_wp2
      go_ret
      exact ⟨rfl, hb⟩
    · rw [decide_eq_true (p := 0 ≤ (j : Int)) (by omega), decide_eq_false (p := (j : Int) < (n : Int)) (by omega), Bool.false_and, Bool.true_and]
      clear C
      go_enter Try.func62, Try.ntmps62
      go_wp2
      go_ret
      exact ⟨rfl, Below.refl _ _⟩
  · rw [decide_eq_false (p := 0 ≤ x) h0, Bool.false_and]
    clear C
    go_enter Try.func62, Try.ntmps62
    go_wp2
    go_ret
    exact ⟨rfl, Below.refl _ _⟩
set_option maxHeartbeats 2000000 in
theorem takingP_back (v1 : Value) (A : Option Addr) (n c b3 : Nat) (L : List Gk) (B : Option Addr) (m d : Nat) (T : List Int) (w : World) (hm : m = T.length) (hn : n = L.length) (h1 : m ≤ 1000) (h3 : Blk w b3 25 #[.slice A n c]) (ha : At w A (gcs L)) (hb : At w B (iv T)) :
    Calls Try.prog 44 #[.agg #[v1, .slice B m d], .slice A n c, .func (.func 45) #[] #[.pointer (some ⟨b3, 0, none⟩)]] w fun e w' => ∃ v, e = .returned v ∧ w'.ownsRow w.heap.size 3 1 v (wh m (backQ L T)).length (nv (wh m (backQ L T))) ∧ Below w.heap.size w w' := by
  obtain ⟨b0, hb0⟩ : ∃ b, b = w.heap.size := ⟨_, rfl⟩
  obtain ⟨U, hU⟩ : ∃ W, W = ((w.alloc (.cells #[v1, .slice B m d] 31)).alloc (.cells #[.slice A n c] 25)).alloc (.cells #[.func (.func 45) #[] #[.pointer (some ⟨b3, 0, none⟩)]] 83) := ⟨_, rfl⟩
  have hbU : Below w.heap.size w U := by rw [hU]; exact ((below_alloc w _).alloc (by simp) _).alloc (by simp; omega) _
  have HK0 := Lib.hid (show Blk U b0 31 #[v1, .slice B m d] by rw [hU, hb0]; exact ((Blk.new w _ _).alloc _).alloc _)
  have HK1 := Lib.hid (show Blk U (b0 + 1) 25 #[.slice A n c] by rw [hU, hb0]; exact (Blk.new' (w.alloc _) _ _ _ (by simp)).alloc _)
  have HK2 := Lib.hid (show Blk U (b0 + 2) 83 #[.func (.func 45) #[] #[.pointer (some ⟨b3, 0, none⟩)]] by rw [hU, hb0]; exact Blk.new' ((w.alloc _).alloc _) _ _ _ (by simp))
  have HK3 := Lib.hid (h3.below hbU)
  have HA := Lib.hid (ha.below hbU)
  have HBB := Lib.hid (hb.below hbU)
  have C := Lib.hid (where_taking m b0 (b0 + 1) (b0 + 2) (backQ L T) U (by omega) (fun W i hi hb => taking_back i b0 (b0 + 1) (b0 + 2) b3 v1 A n c L B m d T W hi hm hn (HK0.out.below hb) (HK1.out.below hb) (HK2.out.below hb) (HK3.out.below hb) (HA.out.below hb) (HBB.out.below hb)))
  have HU := Lib.hid hU
  have HG := Lib.hid hb0
  have HB := Lib.hid hbU
  have r1 := HK0.out.cell 1 (v := .slice B m d) rfl
  clear hU hb0 hbU ha hb hm hn h3
  go_enter Try.func44, Try.ntmps44
  go_upto_region 1 with fail
  rw [← HU.out, ← HG.out]
  go_wp2_with fail
  refine C.out.mono ?_
  rintro e w1 ⟨v, rfl, ho, hb⟩
  obtain ⟨A5, c5, rfl, _, _⟩ := own_slice ho
  have HO := Lib.hid ho
  have HB1 := Lib.hid (HB.out.trans (hb.mono HB.out.size))
  have hs := HB.out.size
  clear ho hb r1 C
  go_wp2
  go_ret
  exact ⟨.slice A5 _ c5, rfl, own_mono HO.out hs, HB1.out⟩
set_option maxHeartbeats 2000000 in
theorem back_any (v1 : Value) (A : Option Addr) (n c : Nat) (L : List Gk) (B : Option Addr) (m d : Nat) (T : List Int) (w : World) (hm : m = T.length) (hn : n = L.length) (h1 : m ≤ 1000) (ha : At w A (gcs L)) (hb : At w B (iv T)) :
    Calls Try.prog 19 #[.agg #[v1, .slice B m d], .slice A n c] w fun e w' => ∃ v, e = .returned v ∧ w'.ownsRow w.heap.size 3 1 v (wh m (backQ L T)).length (nv (wh m (backQ L T))) ∧ Below w.heap.size w w' := by
  obtain ⟨b0, hb0⟩ : ∃ b, b = w.heap.size := ⟨_, rfl⟩
  obtain ⟨U, hU⟩ : ∃ W, W = (w.alloc (.cells #[v1, .slice B m d] 31)).alloc (.cells #[.slice A n c] 25) := ⟨_, rfl⟩
  have hbU : Below w.heap.size w U := by rw [hU]; exact (below_alloc w _).alloc (by simp) _
  have HK0 := Lib.hid (show Blk U b0 31 #[v1, .slice B m d] by rw [hU, hb0]; exact (Blk.new w _ _).alloc _)
  have HK1 := Lib.hid (show Blk U (b0 + 1) 25 #[.slice A n c] by rw [hU, hb0]; exact Blk.new' (w.alloc _) _ _ _ (by simp))
  have C := Lib.hid (takingP_back v1 A n c (b0 + 1) L B m d T U hm hn h1 HK1.out (ha.below hbU) (hb.below hbU))
  have HU := Lib.hid hU
  have HG := Lib.hid hb0
  have HB := Lib.hid hbU
  have r0 := HK0.out.cell 0 (v := v1) rfl
  have r1 := HK0.out.cell 1 (v := .slice B m d) rfl
  have r2 := HK1.out.cell 0 (v := .slice A n c) rfl
  clear hU hb0 hbU ha hb hm hn
  go_enter Try.func19, Try.ntmps19
  go_upto_region 1 with fail
  rw [← HU.out, ← HG.out]
  go_wp2_with fail
  refine C.out.mono ?_
  rintro e w1 ⟨v, rfl, ho, hb⟩
  obtain ⟨A5, c5, rfl, _, _⟩ := own_slice ho
  have HO := Lib.hid ho
  have HB1 := Lib.hid (HB.out.trans (hb.mono HB.out.size))
  have hs := HB.out.size
  clear ho hb r1 C
  go_wp2
  go_ret
  exact ⟨.slice A5 _ c5, rfl, own_mono HO.out hs, HB1.out⟩
set_option maxHeartbeats 2000000 in
theorem taking_kept (i bp bo bf b3 : Nat) (v1 : Value) (A : Option Addr) (n c : Nat) (L : List Gk) (B : Option Addr) (m d : Nat) (T : List Int) (w : World) (hi : i < m) (hm : m = T.length) (hn : n = L.length)
    (hp : Blk w bp 31 #[v1, .slice B m d]) (ho : Blk w bo 25 #[.slice A n c]) (hf : Blk w bf 83 #[.func (.func 46) #[] #[.pointer (some ⟨b3, 0, none⟩)]]) (h3 : Blk w b3 25 #[.slice A n c]) (ha : At w A (gcs L)) (hb : At w B (iv T)) :
    Calls Try.prog 62 #[.int .i64 i, .pointer (some ⟨bp, 0, none⟩), .pointer (some ⟨bo, 0, none⟩), .pointer (some ⟨bf, 0, none⟩)] w fun e w' => e = .returned (.bool (keptQ L T i)) ∧ Below w.heap.size w w' := by
  obtain ⟨b1, o1, rfl, _, hc1⟩ := hb.one (iv_at T i (by omega))
  have r1 := hp.cell 1 (v := .slice (some ⟨b1, o1, none⟩) m d) rfl
  have r2 := ho.cell 0 (v := .slice A n c) rfl
  have r3 := hf.cell 0 (v := .func (.func 46) #[] #[.pointer (some ⟨b3, 0, none⟩)]) rfl
  have C := Lib.hid (fun (j : Nat) (hj : j < n) => kept1_any j b3 A n c L w hj hn (h3.cell 0 rfl) ha)
  unfold keptQ
  rw [← hn]
  generalize ats T i = x at *
  clear ha hb hn hm hp ho hf h3
  by_cases h0 : 0 ≤ x
  · obtain ⟨j, rfl⟩ : ∃ j : Nat, x = (j : Int) := ⟨x.toNat, by omega⟩
    by_cases hj : j < n
    · have CJ := Lib.hid (C.out j hj)
      rw [show ((j : Int)).toNat = j by omega, decide_eq_true (p := 0 ≤ (j : Int)) (by omega), decide_eq_true (p := (j : Int) < (n : Int)) (by omega), Bool.true_and, Bool.true_and]
      generalize (!(gk L j).2) = g at *
      clear C
      go_enter Try.func62, Try.ntmps62
      go_wp2_with fail
      refine CJ.out.mono ?_
      rintro e w1 ⟨rfl, hb⟩
      go_wp2
      go_ret
      exact ⟨rfl, hb⟩
    · rw [decide_eq_true (p := 0 ≤ (j : Int)) (by omega), decide_eq_false (p := (j : Int) < (n : Int)) (by omega), Bool.false_and, Bool.true_and]
      clear C
      go_enter Try.func62, Try.ntmps62
      go_wp2
      go_ret
      exact ⟨rfl, Below.refl _ _⟩
  · rw [decide_eq_false (p := 0 ≤ x) h0, Bool.false_and]
    clear C
    go_enter Try.func62, Try.ntmps62
    go_wp2
    go_ret
    exact ⟨rfl, Below.refl _ _⟩
set_option maxHeartbeats 2000000 in
theorem takingP_kept (v1 : Value) (A : Option Addr) (n c b3 : Nat) (L : List Gk) (B : Option Addr) (m d : Nat) (T : List Int) (w : World) (hm : m = T.length) (hn : n = L.length) (h1 : m ≤ 1000) (h3 : Blk w b3 25 #[.slice A n c]) (ha : At w A (gcs L)) (hb : At w B (iv T)) :
    Calls Try.prog 44 #[.agg #[v1, .slice B m d], .slice A n c, .func (.func 46) #[] #[.pointer (some ⟨b3, 0, none⟩)]] w fun e w' => ∃ v, e = .returned v ∧ w'.ownsRow w.heap.size 3 1 v (wh m (keptQ L T)).length (nv (wh m (keptQ L T))) ∧ Below w.heap.size w w' := by
  obtain ⟨b0, hb0⟩ : ∃ b, b = w.heap.size := ⟨_, rfl⟩
  obtain ⟨U, hU⟩ : ∃ W, W = ((w.alloc (.cells #[v1, .slice B m d] 31)).alloc (.cells #[.slice A n c] 25)).alloc (.cells #[.func (.func 46) #[] #[.pointer (some ⟨b3, 0, none⟩)]] 83) := ⟨_, rfl⟩
  have hbU : Below w.heap.size w U := by rw [hU]; exact ((below_alloc w _).alloc (by simp) _).alloc (by simp; omega) _
  have HK0 := Lib.hid (show Blk U b0 31 #[v1, .slice B m d] by rw [hU, hb0]; exact ((Blk.new w _ _).alloc _).alloc _)
  have HK1 := Lib.hid (show Blk U (b0 + 1) 25 #[.slice A n c] by rw [hU, hb0]; exact (Blk.new' (w.alloc _) _ _ _ (by simp)).alloc _)
  have HK2 := Lib.hid (show Blk U (b0 + 2) 83 #[.func (.func 46) #[] #[.pointer (some ⟨b3, 0, none⟩)]] by rw [hU, hb0]; exact Blk.new' ((w.alloc _).alloc _) _ _ _ (by simp))
  have HK3 := Lib.hid (h3.below hbU)
  have HA := Lib.hid (ha.below hbU)
  have HBB := Lib.hid (hb.below hbU)
  have C := Lib.hid (where_taking m b0 (b0 + 1) (b0 + 2) (keptQ L T) U (by omega) (fun W i hi hb => taking_kept i b0 (b0 + 1) (b0 + 2) b3 v1 A n c L B m d T W hi hm hn (HK0.out.below hb) (HK1.out.below hb) (HK2.out.below hb) (HK3.out.below hb) (HA.out.below hb) (HBB.out.below hb)))
  have HU := Lib.hid hU
  have HG := Lib.hid hb0
  have HB := Lib.hid hbU
  have r1 := HK0.out.cell 1 (v := .slice B m d) rfl
  clear hU hb0 hbU ha hb hm hn h3
  go_enter Try.func44, Try.ntmps44
  go_upto_region 1 with fail
  rw [← HU.out, ← HG.out]
  go_wp2_with fail
  refine C.out.mono ?_
  rintro e w1 ⟨v, rfl, ho, hb⟩
  obtain ⟨A5, c5, rfl, _, _⟩ := own_slice ho
  have HO := Lib.hid ho
  have HB1 := Lib.hid (HB.out.trans (hb.mono HB.out.size))
  have hs := HB.out.size
  clear ho hb r1 C
  go_wp2
  go_ret
  exact ⟨.slice A5 _ c5, rfl, own_mono HO.out hs, HB1.out⟩
set_option maxHeartbeats 2000000 in
theorem kept_any (v1 : Value) (A : Option Addr) (n c : Nat) (L : List Gk) (B : Option Addr) (m d : Nat) (T : List Int) (w : World) (hm : m = T.length) (hn : n = L.length) (h1 : m ≤ 1000) (ha : At w A (gcs L)) (hb : At w B (iv T)) :
    Calls Try.prog 20 #[.agg #[v1, .slice B m d], .slice A n c] w fun e w' => ∃ v, e = .returned v ∧ w'.ownsRow w.heap.size 3 1 v (wh m (keptQ L T)).length (nv (wh m (keptQ L T))) ∧ Below w.heap.size w w' := by
  obtain ⟨b0, hb0⟩ : ∃ b, b = w.heap.size := ⟨_, rfl⟩
  obtain ⟨U, hU⟩ : ∃ W, W = (w.alloc (.cells #[v1, .slice B m d] 31)).alloc (.cells #[.slice A n c] 25) := ⟨_, rfl⟩
  have hbU : Below w.heap.size w U := by rw [hU]; exact (below_alloc w _).alloc (by simp) _
  have HK0 := Lib.hid (show Blk U b0 31 #[v1, .slice B m d] by rw [hU, hb0]; exact (Blk.new w _ _).alloc _)
  have HK1 := Lib.hid (show Blk U (b0 + 1) 25 #[.slice A n c] by rw [hU, hb0]; exact Blk.new' (w.alloc _) _ _ _ (by simp))
  have C := Lib.hid (takingP_kept v1 A n c (b0 + 1) L B m d T U hm hn h1 HK1.out (ha.below hbU) (hb.below hbU))
  have HU := Lib.hid hU
  have HG := Lib.hid hb0
  have HB := Lib.hid hbU
  have r0 := HK0.out.cell 0 (v := v1) rfl
  have r1 := HK0.out.cell 1 (v := .slice B m d) rfl
  have r2 := HK1.out.cell 0 (v := .slice A n c) rfl
  clear hU hb0 hbU ha hb hm hn
  go_enter Try.func20, Try.ntmps20
  go_upto_region 1 with fail
  rw [← HU.out, ← HG.out]
  go_wp2_with fail
  refine C.out.mono ?_
  rintro e w1 ⟨v, rfl, ho, hb⟩
  obtain ⟨A5, c5, rfl, _, _⟩ := own_slice ho
  have HO := Lib.hid ho
  have HB1 := Lib.hid (HB.out.trans (hb.mono HB.out.size))
  have hs := HB.out.size
  clear ho hb r1 C
  go_wp2
  go_ret
  exact ⟨.slice A5 _ c5, rfl, own_mono HO.out hs, HB1.out⟩
set_option maxHeartbeats 4000000 in
set_option maxRecDepth 100000 in
theorem ghosts_any (D : Option Addr) (k e : Nat) (L : List Gk) (T : List Int) (A : Option Addr) (n c : Nat) (B : Option Addr) (m d : Nat) (w : World) (hm : m = T.length) (hn : n = L.length) (h1 : m ≤ 1000) (h2 : n ≤ 1000) (hk : k = (leaves L T).length) (hd : At w D (nv (leaves L T))) (ha : At w A (gcs L)) (hb : At w B (iv T)) :
    Calls Try.prog 21 #[.agg #[.slice D k e, .slice B m d], .slice A n c] w fun e w' => ∃ v, e = .returned v ∧ w'.ownsRow w.heap.size 3 1 v (ghosts L T).length (nv (ghosts L T)) ∧ Below w.heap.size w w' := by
  obtain ⟨b0, hb0⟩ : ∃ b, b = w.heap.size := ⟨_, rfl⟩
  obtain ⟨U, hU⟩ : ∃ W, W = (w.alloc (.cells #[.slice D k e, .slice B m d] 31)).alloc (.cells #[.slice A n c] 25) := ⟨_, rfl⟩
  have hbU : Below w.heap.size w U := by rw [hU]; exact (below_alloc w _).alloc (by simp) _
  have HK0 := Lib.hid (show Blk U b0 31 #[.slice D k e, .slice B m d] by rw [hU, hb0]; exact (Blk.new w _ _).alloc _)
  have HK1 := Lib.hid (show Blk U (b0 + 1) 25 #[.slice A n c] by rw [hU, hb0]; exact Blk.new' (w.alloc _) _ _ _ (by simp))
  have HD := Lib.hid (hd.below hbU)
  have HA := Lib.hid (ha.below hbU)
  have HBB := Lib.hid (hb.below hbU)
  have hkl : k ≤ 1000 := by
    have := wh_le L.length (leaveQ L T)
    unfold leaves at hk
    omega
  have C1 := Lib.hid (fun W (hW : Below U.heap.size U W) => marked_any n D k e (nI (leaves L T)) W (by simp [nI]; exact hk) (by omega) (by omega) (by rw [iv_nI]; exact HD.out.below hW))
  have C2 := Lib.hid (fun W (hW : Below U.heap.size U W) => marked_any n B m d T W hm (by omega) (by omega) (HBB.out.below hW))
  have HU := Lib.hid hU
  have HG := Lib.hid hb0
  have HB := Lib.hid hbU
  have HN := Lib.hid hn
  have r0 := HK0.out.cell 0 (v := .slice D k e) rfl
  have r1 := HK0.out.cell 1 (v := .slice B m d) rfl
  have r2 := HK1.out.cell 0 (v := .slice A n c) rfl
  clear hU hb0 hbU ha hb hm hn hk hd
  go_enter Try.func21, Try.ntmps21
  go_upto_region 1 with fail
  rw [← HU.out, ← HG.out]
  have SH := Lib.hid (fun W (BW : Below U.heap.size U W) => (⟨(BW.cell (p := ⟨b0, 0, none⟩) HK0.out.lt).trans (HK0.out.cell 0 (v := .slice D k e) rfl), (BW.cell (p := ⟨b0, 1, none⟩) HK0.out.lt).trans (HK0.out.cell 1 (v := .slice _ m d) rfl), (BW.cell (p := ⟨b0 + 1, 0, none⟩) HK1.out.lt).trans (HK1.out.cell 0 (v := .slice A n c) rfl), BW⟩ : (fun w' => w'.cell? ⟨b0, 0, none⟩ = some (.slice D k e) ∧ w'.cell? ⟨b0, 1, none⟩ = some (.slice B m d) ∧ w'.cell? ⟨b0 + 1, 0, none⟩ = some (.slice A n c) ∧ Below U.heap.size U w') W))
  clear r0 r1 r2
  go_cut [5, 6] (fun p q wx => ∃ (G5 G6 : Nat) (A1 : Option Addr) (c1 : Nat) (A2 : Option Addr) (c2 : Nat), p = .pointer (some ⟨G5, 0, none⟩) ∧ q = .pointer (some ⟨G6, 0, none⟩) ∧ Hid (Blk wx G5 80 #[.slice A1 n c1]) ∧ Hid (Blk wx G6 80 #[.slice A2 n c2]) ∧ Hid (wx.ownsRow U.heap.size 4 1 (.slice A1 n c1) n (bv (mks n (nI (leaves L T))))) ∧ Hid (wx.ownsRow U.heap.size 4 1 (.slice A2 n c2) n (bv (mks n T))) ∧ Hid (Below U.heap.size U wx))
  case first =>
    have HB0 := Lib.hid (show Below U.heap.size U U.drew from Below_drew (Below.refl _ _))
    obtain ⟨X0, hX0⟩ : ∃ X, X = U.drew := ⟨_, rfl⟩
    refine wp_region_held_drew (S := (fun w' => w'.cell? ⟨b0, 0, none⟩ = some (.slice D k e) ∧ w'.cell? ⟨b0, 1, none⟩ = some (.slice B m d) ∧ w'.cell? ⟨b0 + 1, 0, none⟩ = some (.slice A n c) ∧ Below U.heap.size U w')) (by kernel_rfl) (SH.out _ HB0.out) (fun hH0 => ?_)
    rw [← hX0] at HB0 hH0 ⊢
    clear hX0
    refine wpAnyH_take (i := 0) (oi := Oper.mk (some 7) (Op.load 25 (Operand.tmp 3)) 25 "group.go:49" #[] none) (v := ?_) rfl (by kernel_rfl) (by kernel_rfl) (by kernel_rfl) (fun _ _ _ h => h) (Or.inl ⟨by rfl, ?_⟩) (by assumption) ?_
    rotate_left 1
    · (intro w hSw; (try dsimp only at hSw); go_simp; (try with_reducible rfl))
    try simp only [Act.put, List.setIfInBounds_toArray, List.set_cons_zero, List.set_cons_succ]
    refine wpAnyH_take (i := 1) (oi := Oper.mk (some 8) (Op.call (Call.mk (Callee.builtin Builtin.len) #[Operand.tmp 7] #[25])) 3 "group.go:49" #[Edge.mk 0 Ground.data] none) (v := ?_) rfl (by kernel_rfl) (by kernel_rfl) (by kernel_rfl) (fun _ _ _ h => h) (Or.inl ⟨by rfl, ?_⟩) (by assumption) ?_
    rotate_left 1
    · (intro w hSw; (try dsimp only at hSw); go_simp; (try with_reducible rfl))
    try simp only [Act.put, List.setIfInBounds_toArray, List.set_cons_zero, List.set_cons_succ]
    refine wpAnyH_take (i := 2) (oi := Oper.mk (some 9) (Op.fieldAddr 31 (Operand.tmp 2) 0) 0 "group.go:49" #[] none) (v := ?_) rfl (by kernel_rfl) (by kernel_rfl) (by kernel_rfl) (fun _ _ _ h => h) (Or.inl ⟨by rfl, ?_⟩) (by assumption) ?_
    rotate_left 1
    · (intro w hSw; (try dsimp only at hSw); go_simp; (try with_reducible rfl))
    try simp only [Act.put, List.setIfInBounds_toArray, List.set_cons_zero, List.set_cons_succ]
    refine wpAnyH_take (i := 3) (oi := Oper.mk (some 10) (Op.load 29 (Operand.tmp 9)) 29 "group.go:49" #[Edge.mk 2 Ground.data] none) (v := ?_) rfl (by kernel_rfl) (by kernel_rfl) (by kernel_rfl) (fun _ _ _ h => h) (Or.inl ⟨by rfl, ?_⟩) (by assumption) ?_
    rotate_left 1
    · (intro w hSw; (try dsimp only at hSw); go_simp; (try with_reducible rfl))
    try simp only [Act.put, List.setIfInBounds_toArray, List.set_cons_zero, List.set_cons_succ]
    refine wpAnyH_take (i := 5) (oi := Oper.mk (some 12) (Op.load 25 (Operand.tmp 3)) 25 "group.go:49" #[] none) (v := ?_) rfl (by kernel_rfl) (by kernel_rfl) (by kernel_rfl) (fun _ _ _ h => h) (Or.inl ⟨by rfl, ?_⟩) (by assumption) ?_
    rotate_left 1
    · (intro w hSw; (try dsimp only at hSw); go_simp; (try with_reducible rfl))
    try simp only [Act.put, List.setIfInBounds_toArray, List.set_cons_zero, List.set_cons_succ]
    refine wpAnyH_take (i := 6) (oi := Oper.mk (some 13) (Op.call (Call.mk (Callee.builtin Builtin.len) #[Operand.tmp 12] #[25])) 3 "group.go:49" #[Edge.mk 5 Ground.data] none) (v := ?_) rfl (by kernel_rfl) (by kernel_rfl) (by kernel_rfl) (fun _ _ _ h => h) (Or.inl ⟨by rfl, ?_⟩) (by assumption) ?_
    rotate_left 1
    · (intro w hSw; (try dsimp only at hSw); go_simp; (try with_reducible rfl))
    try simp only [Act.put, List.setIfInBounds_toArray, List.set_cons_zero, List.set_cons_succ]
    refine wpAnyH_take (i := 7) (oi := Oper.mk (some 14) (Op.fieldAddr 31 (Operand.tmp 2) 1) 0 "group.go:49" #[] none) (v := ?_) rfl (by kernel_rfl) (by kernel_rfl) (by kernel_rfl) (fun _ _ _ h => h) (Or.inl ⟨by rfl, ?_⟩) (by assumption) ?_
    rotate_left 1
    · (intro w hSw; (try dsimp only at hSw); go_simp; (try with_reducible rfl))
    try simp only [Act.put, List.setIfInBounds_toArray, List.set_cons_zero, List.set_cons_succ]
    refine wpAnyH_take (i := 8) (oi := Oper.mk (some 15) (Op.load 29 (Operand.tmp 14)) 29 "group.go:49" #[Edge.mk 7 Ground.data] none) (v := ?_) rfl (by kernel_rfl) (by kernel_rfl) (by kernel_rfl) (fun _ _ _ h => h) (Or.inl ⟨by rfl, ?_⟩) (by assumption) ?_
    rotate_left 1
    · (intro w hSw; (try dsimp only at hSw); go_simp; (try with_reducible rfl))
    try simp only [Act.put, List.setIfInBounds_toArray, List.set_cons_zero, List.set_cons_succ]
    refine wpAnyH_ready (rs := [4, 10, 11]) (by kernel_rfl) (by simp) ?_
    refine (AllReadyH.cons (o := Oper.mk (some 11) (Op.call (Call.mk (Callee.value (Operand.func 39)) #[Operand.tmp 8, Operand.tmp 10] #[3, 29])) 80 "group.go:49" #[Edge.mk 1 Ground.data, Edge.mk 3 Ground.data] none) rfl (fun K hK => ?_) (AllReadyH.cons (o := Oper.mk (some 5) (Op.alloc 80) 0 "group.go:49" #[] none) rfl (fun K hK => ?_) (AllReadyH.cons (o := Oper.mk (some 6) (Op.alloc 80) 0 "group.go:49" #[] none) rfl (fun K hK => ?_) AllReadyH.nil)))
    · go_simp
      go_at_call 39
      (with_reducible refine (C1.out _ HB0.out).mono ?_)
      rintro e9 X1 ⟨v9, rfl, ho, hb⟩
      obtain ⟨A1, c1, rfl, _, _⟩ := own_slice ho
      have HB1 := Lib.hid (HB0.out.trans (hb.mono HB0.out.size))
      have R1x1 := Lib.hid (own_mono ho HB0.out.size)
      clear ho hb HB0
      go_wp2_with fail
      refine hK.out _ _ ?_ (fun hH1 => ?_)
      · exact SH.out _ HB1.out
      clear hK K
      try clear hH0
      try simp only [Act.put, List.setIfInBounds_toArray, List.set_cons_zero, List.set_cons_succ]
      refine wpAnyH_ready (rs := [9, 10, 11]) (by kernel_rfl) (by simp) ?_
      refine (AllReadyH.cons (o := Oper.mk (some 16) (Op.call (Call.mk (Callee.value (Operand.func 39)) #[Operand.tmp 13, Operand.tmp 15] #[3, 29])) 80 "group.go:49" #[Edge.mk 6 Ground.data, Edge.mk 8 Ground.data, Edge.mk 4 Ground.chain] none) rfl (fun K hK => ?_) (AllReadyH.cons (o := Oper.mk (some 5) (Op.alloc 80) 0 "group.go:49" #[] none) rfl (fun K hK => ?_) (AllReadyH.cons (o := Oper.mk (some 6) (Op.alloc 80) 0 "group.go:49" #[] none) rfl (fun K hK => ?_) AllReadyH.nil)))
      · go_simp
        go_at_call 39
        (with_reducible refine (C2.out _ HB1.out).mono ?_)
        rintro e9 X2 ⟨v9, rfl, ho, hb⟩
        obtain ⟨A2, c2, rfl, _, _⟩ := own_slice ho
        have HB2 := Lib.hid (HB1.out.trans (hb.mono HB1.out.size))
        have R2x2 := Lib.hid (own_mono ho HB1.out.size)
        have R1x2 := Lib.hid (own_below R1x1.out hb)
        clear R1x1
        clear ho hb HB1
        go_wp2_with fail
        refine hK.out _ _ ?_ (fun hH2 => ?_)
        · exact SH.out _ HB2.out
        clear hK K
        try clear hH1
        try simp only [Act.put, List.setIfInBounds_toArray, List.set_cons_zero, List.set_cons_succ]
        refine wpAnyH_ready (rs := [10, 11]) (by kernel_rfl) (by simp) ?_
        refine (AllReadyH.cons (o := Oper.mk (some 5) (Op.alloc 80) 0 "group.go:49" #[] none) rfl (fun K hK => ?_) (AllReadyH.cons (o := Oper.mk (some 6) (Op.alloc 80) 0 "group.go:49" #[] none) rfl (fun K hK => ?_) AllReadyH.nil))
        · go_simp
          obtain ⟨X3, hX⟩ : ∃ X, X = X2.alloc (.cells #[.slice none 0 0] 80) := ⟨_, rfl⟩
          obtain ⟨G5, hg⟩ : ∃ g, g = X2.heap.size := ⟨_, rfl⟩
          rw [← hX, ← hg]
          have hb : Below X2.heap.size X2 X3 := by rw [hX]; exact below_alloc _ _
          have K5x3 := Lib.hid (show Blk X3 G5 80 #[.slice none 0 0] by rw [hX, hg]; exact Blk.new _ _ _)
          have HLG5 := Lib.hid (show U.heap.size ≤ G5 by rw [hg]; exact HB2.out.size)
          have HB3 := Lib.hid (HB2.out.trans (hb.mono HB2.out.size))
          have R1x3 := Lib.hid (own_below R1x2.out hb)
          clear R1x2
          have R2x3 := Lib.hid (own_below R2x2.out hb)
          clear R2x2
          clear hX hg hb HB2
          refine hK.out _ _ ?_ (fun hH3 => ?_)
          · exact SH.out _ HB3.out
          clear hK K
          try clear hH2
          try simp only [Act.put, List.setIfInBounds_toArray, List.set_cons_zero, List.set_cons_succ]
          refine wpAnyH_ready (rs := [11]) (by kernel_rfl) (by simp) ?_
          refine (AllReadyH.cons (o := Oper.mk (some 6) (Op.alloc 80) 0 "group.go:49" #[] none) rfl (fun K hK => ?_) AllReadyH.nil)
          go_simp
          obtain ⟨X4, hX⟩ : ∃ X, X = X3.alloc (.cells #[.slice none 0 0] 80) := ⟨_, rfl⟩
          obtain ⟨G6, hg⟩ : ∃ g, g = X3.heap.size := ⟨_, rfl⟩
          rw [← hX, ← hg]
          have hb : Below X3.heap.size X3 X4 := by rw [hX]; exact below_alloc _ _
          have K6x4 := Lib.hid (show Blk X4 G6 80 #[.slice none 0 0] by rw [hX, hg]; exact Blk.new _ _ _)
          have HLG6 := Lib.hid (show U.heap.size ≤ G6 by rw [hg]; exact HB3.out.size)
          have NEG6K5 := Lib.hid (show G5 ≠ G6 by have := K5x3.out.lt; omega)
          have HB4 := Lib.hid (HB3.out.trans (hb.mono HB3.out.size))
          have R1x4 := Lib.hid (own_below R1x3.out hb)
          clear R1x3
          have R2x4 := Lib.hid (own_below R2x3.out hb)
          clear R2x3
          have K5x4 := Lib.hid (K5x3.out.below hb)
          clear K5x3
          clear hX hg hb HB3
          refine hK.out _ _ ?_ (fun hH4 => ?_)
          · exact SH.out _ HB4.out
          clear hK K
          try clear hH3
          try simp only [Act.put, List.setIfInBounds_toArray, List.set_cons_zero, List.set_cons_succ]
          refine wpAnyH_ready (rs := [12]) (by kernel_rfl) (by simp) ?_
          refine (AllReadyH.cons (o := Oper.mk none (Op.store 80 (Operand.tmp 5) (Operand.tmp 11)) 0 "group.go:49" #[Edge.mk 10 Ground.data, Edge.mk 4 Ground.data, Edge.mk 9 Ground.chain, Edge.mk 0 Ground.phase, Edge.mk 1 Ground.phase, Edge.mk 2 Ground.phase, Edge.mk 3 Ground.phase, Edge.mk 4 Ground.phase, Edge.mk 5 (Ground.textOnly Departure.lateStores), Edge.mk 6 (Ground.textOnly Departure.lateStoresUnsure), Edge.mk 7 (Ground.textOnly Departure.lateStores), Edge.mk 8 (Ground.textOnly Departure.lateStores), Edge.mk 9 (Ground.textOnly Departure.lateStoresUnsure), Edge.mk 10 Ground.phase, Edge.mk 11 Ground.phase] none) rfl (fun K hK => ?_) AllReadyH.nil)
          have e0 := K5x4.out.cell 0 (v := .slice none 0 0) rfl
          have p0 := K5x4.out.frozen 0
          go_simp
          obtain ⟨X5, hX⟩ : ∃ X, X = X4.setCell ⟨G5, 0, none⟩ (.slice A1 n c1) := ⟨_, rfl⟩
          rw [← hX]
          clear e0 p0
          have HB5 := Lib.hid (show Below U.heap.size U X5 by rw [hX]; exact HB4.out.setCell (p := ⟨G5, 0, none⟩) HLG5.out _)
          have K5x5 := Lib.hid (show Blk X5 G5 80 #[.slice A1 n c1] by rw [hX]; exact K5x4.out.set 0 _)
          have hbs : Beside (fun b => b = G5) X4 X5 := by rw [hX]; exact (Beside.refl (fun b => b = G5) _).set (.inl rfl) 0 _
          have R1x5 := Lib.hid (hbs.keepsOwn R1x4.out (fun q hq e => row_ne_blk R1x4.out K5x4.out (by decide) (by rw [hq, e])))
          have R2x5 := Lib.hid (hbs.keepsOwn R2x4.out (fun q hq e => row_ne_blk R2x4.out K5x4.out (by decide) (by rw [hq, e])))
          have K6x5 := Lib.hid (show Blk X5 G6 _ _ by rw [hX]; exact K6x4.out.other _ _ _ (by first | exact NEG5K6.out | exact (NEG6K5.out).symm))
          clear hX hbs HB4 R1x4 R2x4 K5x4 K6x4
          refine hK.out _ _ ?_ (fun hH5 => ?_)
          · exact SH.out _ HB5.out
          clear hK K
          try clear hH4
          try simp only [Act.put, List.setIfInBounds_toArray, List.set_cons_zero, List.set_cons_succ]
          refine wpAnyH_ready (rs := [13]) (by kernel_rfl) (by simp) ?_
          refine (AllReadyH.cons (o := Oper.mk none (Op.store 80 (Operand.tmp 6) (Operand.tmp 16)) 0 "group.go:49" #[Edge.mk 11 Ground.data, Edge.mk 9 Ground.data, Edge.mk 12 Ground.chain, Edge.mk 0 Ground.phase, Edge.mk 1 Ground.phase, Edge.mk 2 Ground.phase, Edge.mk 3 Ground.phase, Edge.mk 4 Ground.phase, Edge.mk 5 Ground.phase, Edge.mk 6 Ground.phase, Edge.mk 7 Ground.phase, Edge.mk 8 Ground.phase, Edge.mk 9 Ground.phase, Edge.mk 10 Ground.phase, Edge.mk 11 Ground.phase, Edge.mk 12 Ground.phase] none) rfl (fun K hK => ?_) AllReadyH.nil)
          have e0 := K6x5.out.cell 0 (v := .slice none 0 0) rfl
          have p0 := K6x5.out.frozen 0
          go_simp
          obtain ⟨X6, hX⟩ : ∃ X, X = X5.setCell ⟨G6, 0, none⟩ (.slice A2 n c2) := ⟨_, rfl⟩
          rw [← hX]
          clear e0 p0
          have HB6 := Lib.hid (show Below U.heap.size U X6 by rw [hX]; exact HB5.out.setCell (p := ⟨G6, 0, none⟩) HLG6.out _)
          have K6x6 := Lib.hid (show Blk X6 G6 80 #[.slice A2 n c2] by rw [hX]; exact K6x5.out.set 0 _)
          have hbs : Beside (fun b => b = G6) X5 X6 := by rw [hX]; exact (Beside.refl (fun b => b = G6) _).set (.inl rfl) 0 _
          have R1x6 := Lib.hid (hbs.keepsOwn R1x5.out (fun q hq e => row_ne_blk R1x5.out K6x5.out (by decide) (by rw [hq, e])))
          have R2x6 := Lib.hid (hbs.keepsOwn R2x5.out (fun q hq e => row_ne_blk R2x5.out K6x5.out (by decide) (by rw [hq, e])))
          have K5x6 := Lib.hid (show Blk X6 G5 _ _ by rw [hX]; exact K5x5.out.other _ _ _ (by first | exact NEG6K5.out | exact (NEG5K6.out).symm))
          clear hX hbs HB5 R1x5 R2x5 K5x5 K6x5
          refine hK.out _ _ ?_ (fun hH6 => ?_)
          · exact SH.out _ HB6.out
          clear hK K
          try clear hH5
          try simp only [Act.put, List.setIfInBounds_toArray, List.set_cons_zero, List.set_cons_succ]
          refine wpAnyH_done (by kernel_rfl) ?_ _
          go_wp2_with fail
          go_meet
          exact ⟨G5, G6, A1, c1, A2, c2, rfl, rfl, K5x6, K6x6, R1x6, R2x6, HB6⟩
        · go_simp
          obtain ⟨X3, hX⟩ : ∃ X, X = X2.alloc (.cells #[.slice none 0 0] 80) := ⟨_, rfl⟩
          obtain ⟨G6, hg⟩ : ∃ g, g = X2.heap.size := ⟨_, rfl⟩
          rw [← hX, ← hg]
          have hb : Below X2.heap.size X2 X3 := by rw [hX]; exact below_alloc _ _
          have K6x3 := Lib.hid (show Blk X3 G6 80 #[.slice none 0 0] by rw [hX, hg]; exact Blk.new _ _ _)
          have HLG6 := Lib.hid (show U.heap.size ≤ G6 by rw [hg]; exact HB2.out.size)
          have HB3 := Lib.hid (HB2.out.trans (hb.mono HB2.out.size))
          have R1x3 := Lib.hid (own_below R1x2.out hb)
          clear R1x2
          have R2x3 := Lib.hid (own_below R2x2.out hb)
          clear R2x2
          clear hX hg hb HB2
          refine hK.out _ _ ?_ (fun hH3 => ?_)
          · exact SH.out _ HB3.out
          clear hK K
          try clear hH2
          try simp only [Act.put, List.setIfInBounds_toArray, List.set_cons_zero, List.set_cons_succ]
          refine wpAnyH_ready (rs := [10]) (by kernel_rfl) (by simp) ?_
          refine (AllReadyH.cons (o := Oper.mk (some 5) (Op.alloc 80) 0 "group.go:49" #[] none) rfl (fun K hK => ?_) AllReadyH.nil)
          go_simp
          obtain ⟨X4, hX⟩ : ∃ X, X = X3.alloc (.cells #[.slice none 0 0] 80) := ⟨_, rfl⟩
          obtain ⟨G5, hg⟩ : ∃ g, g = X3.heap.size := ⟨_, rfl⟩
          rw [← hX, ← hg]
          have hb : Below X3.heap.size X3 X4 := by rw [hX]; exact below_alloc _ _
          have K5x4 := Lib.hid (show Blk X4 G5 80 #[.slice none 0 0] by rw [hX, hg]; exact Blk.new _ _ _)
          have HLG5 := Lib.hid (show U.heap.size ≤ G5 by rw [hg]; exact HB3.out.size)
          have NEG5K6 := Lib.hid (show G6 ≠ G5 by have := K6x3.out.lt; omega)
          have HB4 := Lib.hid (HB3.out.trans (hb.mono HB3.out.size))
          have R1x4 := Lib.hid (own_below R1x3.out hb)
          clear R1x3
          have R2x4 := Lib.hid (own_below R2x3.out hb)
          clear R2x3
          have K6x4 := Lib.hid (K6x3.out.below hb)
          clear K6x3
          clear hX hg hb HB3
          refine hK.out _ _ ?_ (fun hH4 => ?_)
          · exact SH.out _ HB4.out
          clear hK K
          try clear hH3
          try simp only [Act.put, List.setIfInBounds_toArray, List.set_cons_zero, List.set_cons_succ]
          refine wpAnyH_ready (rs := [12]) (by kernel_rfl) (by simp) ?_
          refine (AllReadyH.cons (o := Oper.mk none (Op.store 80 (Operand.tmp 5) (Operand.tmp 11)) 0 "group.go:49" #[Edge.mk 10 Ground.data, Edge.mk 4 Ground.data, Edge.mk 9 Ground.chain, Edge.mk 0 Ground.phase, Edge.mk 1 Ground.phase, Edge.mk 2 Ground.phase, Edge.mk 3 Ground.phase, Edge.mk 4 Ground.phase, Edge.mk 5 (Ground.textOnly Departure.lateStores), Edge.mk 6 (Ground.textOnly Departure.lateStoresUnsure), Edge.mk 7 (Ground.textOnly Departure.lateStores), Edge.mk 8 (Ground.textOnly Departure.lateStores), Edge.mk 9 (Ground.textOnly Departure.lateStoresUnsure), Edge.mk 10 Ground.phase, Edge.mk 11 Ground.phase] none) rfl (fun K hK => ?_) AllReadyH.nil)
          have e0 := K5x4.out.cell 0 (v := .slice none 0 0) rfl
          have p0 := K5x4.out.frozen 0
          go_simp
          obtain ⟨X5, hX⟩ : ∃ X, X = X4.setCell ⟨G5, 0, none⟩ (.slice A1 n c1) := ⟨_, rfl⟩
          rw [← hX]
          clear e0 p0
          have HB5 := Lib.hid (show Below U.heap.size U X5 by rw [hX]; exact HB4.out.setCell (p := ⟨G5, 0, none⟩) HLG5.out _)
          have K5x5 := Lib.hid (show Blk X5 G5 80 #[.slice A1 n c1] by rw [hX]; exact K5x4.out.set 0 _)
          have hbs : Beside (fun b => b = G5) X4 X5 := by rw [hX]; exact (Beside.refl (fun b => b = G5) _).set (.inl rfl) 0 _
          have R1x5 := Lib.hid (hbs.keepsOwn R1x4.out (fun q hq e => row_ne_blk R1x4.out K5x4.out (by decide) (by rw [hq, e])))
          have R2x5 := Lib.hid (hbs.keepsOwn R2x4.out (fun q hq e => row_ne_blk R2x4.out K5x4.out (by decide) (by rw [hq, e])))
          have K6x5 := Lib.hid (show Blk X5 G6 _ _ by rw [hX]; exact K6x4.out.other _ _ _ (by first | exact NEG5K6.out | exact (NEG6K5.out).symm))
          clear hX hbs HB4 R1x4 R2x4 K6x4 K5x4
          refine hK.out _ _ ?_ (fun hH5 => ?_)
          · exact SH.out _ HB5.out
          clear hK K
          try clear hH4
          try simp only [Act.put, List.setIfInBounds_toArray, List.set_cons_zero, List.set_cons_succ]
          refine wpAnyH_ready (rs := [13]) (by kernel_rfl) (by simp) ?_
          refine (AllReadyH.cons (o := Oper.mk none (Op.store 80 (Operand.tmp 6) (Operand.tmp 16)) 0 "group.go:49" #[Edge.mk 11 Ground.data, Edge.mk 9 Ground.data, Edge.mk 12 Ground.chain, Edge.mk 0 Ground.phase, Edge.mk 1 Ground.phase, Edge.mk 2 Ground.phase, Edge.mk 3 Ground.phase, Edge.mk 4 Ground.phase, Edge.mk 5 Ground.phase, Edge.mk 6 Ground.phase, Edge.mk 7 Ground.phase, Edge.mk 8 Ground.phase, Edge.mk 9 Ground.phase, Edge.mk 10 Ground.phase, Edge.mk 11 Ground.phase, Edge.mk 12 Ground.phase] none) rfl (fun K hK => ?_) AllReadyH.nil)
          have e0 := K6x5.out.cell 0 (v := .slice none 0 0) rfl
          have p0 := K6x5.out.frozen 0
          go_simp
          obtain ⟨X6, hX⟩ : ∃ X, X = X5.setCell ⟨G6, 0, none⟩ (.slice A2 n c2) := ⟨_, rfl⟩
          rw [← hX]
          clear e0 p0
          have HB6 := Lib.hid (show Below U.heap.size U X6 by rw [hX]; exact HB5.out.setCell (p := ⟨G6, 0, none⟩) HLG6.out _)
          have K6x6 := Lib.hid (show Blk X6 G6 80 #[.slice A2 n c2] by rw [hX]; exact K6x5.out.set 0 _)
          have hbs : Beside (fun b => b = G6) X5 X6 := by rw [hX]; exact (Beside.refl (fun b => b = G6) _).set (.inl rfl) 0 _
          have R1x6 := Lib.hid (hbs.keepsOwn R1x5.out (fun q hq e => row_ne_blk R1x5.out K6x5.out (by decide) (by rw [hq, e])))
          have R2x6 := Lib.hid (hbs.keepsOwn R2x5.out (fun q hq e => row_ne_blk R2x5.out K6x5.out (by decide) (by rw [hq, e])))
          have K5x6 := Lib.hid (show Blk X6 G5 _ _ by rw [hX]; exact K5x5.out.other _ _ _ (by first | exact NEG6K5.out | exact (NEG5K6.out).symm))
          clear hX hbs HB5 R1x5 R2x5 K6x5 K5x5
          refine hK.out _ _ ?_ (fun hH6 => ?_)
          · exact SH.out _ HB6.out
          clear hK K
          try clear hH5
          try simp only [Act.put, List.setIfInBounds_toArray, List.set_cons_zero, List.set_cons_succ]
          refine wpAnyH_done (by kernel_rfl) ?_ _
          go_wp2_with fail
          go_meet
          exact ⟨G5, G6, A1, c1, A2, c2, rfl, rfl, K5x6, K6x6, R1x6, R2x6, HB6⟩
      · go_simp
        obtain ⟨X2, hX⟩ : ∃ X, X = X1.alloc (.cells #[.slice none 0 0] 80) := ⟨_, rfl⟩
        obtain ⟨G5, hg⟩ : ∃ g, g = X1.heap.size := ⟨_, rfl⟩
        rw [← hX, ← hg]
        have hb : Below X1.heap.size X1 X2 := by rw [hX]; exact below_alloc _ _
        have K5x2 := Lib.hid (show Blk X2 G5 80 #[.slice none 0 0] by rw [hX, hg]; exact Blk.new _ _ _)
        have HLG5 := Lib.hid (show U.heap.size ≤ G5 by rw [hg]; exact HB1.out.size)
        have HB2 := Lib.hid (HB1.out.trans (hb.mono HB1.out.size))
        have R1x2 := Lib.hid (own_below R1x1.out hb)
        clear R1x1
        clear hX hg hb HB1
        refine hK.out _ _ ?_ (fun hH2 => ?_)
        · exact SH.out _ HB2.out
        clear hK K
        try clear hH1
        try simp only [Act.put, List.setIfInBounds_toArray, List.set_cons_zero, List.set_cons_succ]
        refine wpAnyH_ready (rs := [9, 11]) (by kernel_rfl) (by simp) ?_
        refine (AllReadyH.cons (o := Oper.mk (some 16) (Op.call (Call.mk (Callee.value (Operand.func 39)) #[Operand.tmp 13, Operand.tmp 15] #[3, 29])) 80 "group.go:49" #[Edge.mk 6 Ground.data, Edge.mk 8 Ground.data, Edge.mk 4 Ground.chain] none) rfl (fun K hK => ?_) (AllReadyH.cons (o := Oper.mk (some 6) (Op.alloc 80) 0 "group.go:49" #[] none) rfl (fun K hK => ?_) AllReadyH.nil))
        · go_simp
          go_at_call 39
          (with_reducible refine (C2.out _ HB2.out).mono ?_)
          rintro e9 X3 ⟨v9, rfl, ho, hb⟩
          obtain ⟨A2, c2, rfl, _, _⟩ := own_slice ho
          have HB3 := Lib.hid (HB2.out.trans (hb.mono HB2.out.size))
          have R2x3 := Lib.hid (own_mono ho HB2.out.size)
          have R1x3 := Lib.hid (own_below R1x2.out hb)
          clear R1x2
          have K5x3 := Lib.hid (K5x2.out.below hb)
          clear K5x2
          clear ho hb HB2
          go_wp2_with fail
          refine hK.out _ _ ?_ (fun hH3 => ?_)
          · exact SH.out _ HB3.out
          clear hK K
          try clear hH2
          try simp only [Act.put, List.setIfInBounds_toArray, List.set_cons_zero, List.set_cons_succ]
          refine wpAnyH_ready (rs := [11]) (by kernel_rfl) (by simp) ?_
          refine (AllReadyH.cons (o := Oper.mk (some 6) (Op.alloc 80) 0 "group.go:49" #[] none) rfl (fun K hK => ?_) AllReadyH.nil)
          go_simp
          obtain ⟨X4, hX⟩ : ∃ X, X = X3.alloc (.cells #[.slice none 0 0] 80) := ⟨_, rfl⟩
          obtain ⟨G6, hg⟩ : ∃ g, g = X3.heap.size := ⟨_, rfl⟩
          rw [← hX, ← hg]
          have hb : Below X3.heap.size X3 X4 := by rw [hX]; exact below_alloc _ _
          have K6x4 := Lib.hid (show Blk X4 G6 80 #[.slice none 0 0] by rw [hX, hg]; exact Blk.new _ _ _)
          have HLG6 := Lib.hid (show U.heap.size ≤ G6 by rw [hg]; exact HB3.out.size)
          have NEG6K5 := Lib.hid (show G5 ≠ G6 by have := K5x3.out.lt; omega)
          have HB4 := Lib.hid (HB3.out.trans (hb.mono HB3.out.size))
          have R1x4 := Lib.hid (own_below R1x3.out hb)
          clear R1x3
          have K5x4 := Lib.hid (K5x3.out.below hb)
          clear K5x3
          have R2x4 := Lib.hid (own_below R2x3.out hb)
          clear R2x3
          clear hX hg hb HB3
          refine hK.out _ _ ?_ (fun hH4 => ?_)
          · exact SH.out _ HB4.out
          clear hK K
          try clear hH3
          try simp only [Act.put, List.setIfInBounds_toArray, List.set_cons_zero, List.set_cons_succ]
          refine wpAnyH_ready (rs := [12]) (by kernel_rfl) (by simp) ?_
          refine (AllReadyH.cons (o := Oper.mk none (Op.store 80 (Operand.tmp 5) (Operand.tmp 11)) 0 "group.go:49" #[Edge.mk 10 Ground.data, Edge.mk 4 Ground.data, Edge.mk 9 Ground.chain, Edge.mk 0 Ground.phase, Edge.mk 1 Ground.phase, Edge.mk 2 Ground.phase, Edge.mk 3 Ground.phase, Edge.mk 4 Ground.phase, Edge.mk 5 (Ground.textOnly Departure.lateStores), Edge.mk 6 (Ground.textOnly Departure.lateStoresUnsure), Edge.mk 7 (Ground.textOnly Departure.lateStores), Edge.mk 8 (Ground.textOnly Departure.lateStores), Edge.mk 9 (Ground.textOnly Departure.lateStoresUnsure), Edge.mk 10 Ground.phase, Edge.mk 11 Ground.phase] none) rfl (fun K hK => ?_) AllReadyH.nil)
          have e0 := K5x4.out.cell 0 (v := .slice none 0 0) rfl
          have p0 := K5x4.out.frozen 0
          go_simp
          obtain ⟨X5, hX⟩ : ∃ X, X = X4.setCell ⟨G5, 0, none⟩ (.slice A1 n c1) := ⟨_, rfl⟩
          rw [← hX]
          clear e0 p0
          have HB5 := Lib.hid (show Below U.heap.size U X5 by rw [hX]; exact HB4.out.setCell (p := ⟨G5, 0, none⟩) HLG5.out _)
          have K5x5 := Lib.hid (show Blk X5 G5 80 #[.slice A1 n c1] by rw [hX]; exact K5x4.out.set 0 _)
          have hbs : Beside (fun b => b = G5) X4 X5 := by rw [hX]; exact (Beside.refl (fun b => b = G5) _).set (.inl rfl) 0 _
          have R1x5 := Lib.hid (hbs.keepsOwn R1x4.out (fun q hq e => row_ne_blk R1x4.out K5x4.out (by decide) (by rw [hq, e])))
          have R2x5 := Lib.hid (hbs.keepsOwn R2x4.out (fun q hq e => row_ne_blk R2x4.out K5x4.out (by decide) (by rw [hq, e])))
          have K6x5 := Lib.hid (show Blk X5 G6 _ _ by rw [hX]; exact K6x4.out.other _ _ _ (by first | exact NEG5K6.out | exact (NEG6K5.out).symm))
          clear hX hbs HB4 R1x4 K5x4 R2x4 K6x4
          refine hK.out _ _ ?_ (fun hH5 => ?_)
          · exact SH.out _ HB5.out
          clear hK K
          try clear hH4
          try simp only [Act.put, List.setIfInBounds_toArray, List.set_cons_zero, List.set_cons_succ]
          refine wpAnyH_ready (rs := [13]) (by kernel_rfl) (by simp) ?_
          refine (AllReadyH.cons (o := Oper.mk none (Op.store 80 (Operand.tmp 6) (Operand.tmp 16)) 0 "group.go:49" #[Edge.mk 11 Ground.data, Edge.mk 9 Ground.data, Edge.mk 12 Ground.chain, Edge.mk 0 Ground.phase, Edge.mk 1 Ground.phase, Edge.mk 2 Ground.phase, Edge.mk 3 Ground.phase, Edge.mk 4 Ground.phase, Edge.mk 5 Ground.phase, Edge.mk 6 Ground.phase, Edge.mk 7 Ground.phase, Edge.mk 8 Ground.phase, Edge.mk 9 Ground.phase, Edge.mk 10 Ground.phase, Edge.mk 11 Ground.phase, Edge.mk 12 Ground.phase] none) rfl (fun K hK => ?_) AllReadyH.nil)
          have e0 := K6x5.out.cell 0 (v := .slice none 0 0) rfl
          have p0 := K6x5.out.frozen 0
          go_simp
          obtain ⟨X6, hX⟩ : ∃ X, X = X5.setCell ⟨G6, 0, none⟩ (.slice A2 n c2) := ⟨_, rfl⟩
          rw [← hX]
          clear e0 p0
          have HB6 := Lib.hid (show Below U.heap.size U X6 by rw [hX]; exact HB5.out.setCell (p := ⟨G6, 0, none⟩) HLG6.out _)
          have K6x6 := Lib.hid (show Blk X6 G6 80 #[.slice A2 n c2] by rw [hX]; exact K6x5.out.set 0 _)
          have hbs : Beside (fun b => b = G6) X5 X6 := by rw [hX]; exact (Beside.refl (fun b => b = G6) _).set (.inl rfl) 0 _
          have R1x6 := Lib.hid (hbs.keepsOwn R1x5.out (fun q hq e => row_ne_blk R1x5.out K6x5.out (by decide) (by rw [hq, e])))
          have K5x6 := Lib.hid (show Blk X6 G5 _ _ by rw [hX]; exact K5x5.out.other _ _ _ (by first | exact NEG6K5.out | exact (NEG5K6.out).symm))
          have R2x6 := Lib.hid (hbs.keepsOwn R2x5.out (fun q hq e => row_ne_blk R2x5.out K6x5.out (by decide) (by rw [hq, e])))
          clear hX hbs HB5 R1x5 K5x5 R2x5 K6x5
          refine hK.out _ _ ?_ (fun hH6 => ?_)
          · exact SH.out _ HB6.out
          clear hK K
          try clear hH5
          try simp only [Act.put, List.setIfInBounds_toArray, List.set_cons_zero, List.set_cons_succ]
          refine wpAnyH_done (by kernel_rfl) ?_ _
          go_wp2_with fail
          go_meet
          exact ⟨G5, G6, A1, c1, A2, c2, rfl, rfl, K5x6, K6x6, R1x6, R2x6, HB6⟩
        · go_simp
          obtain ⟨X3, hX⟩ : ∃ X, X = X2.alloc (.cells #[.slice none 0 0] 80) := ⟨_, rfl⟩
          obtain ⟨G6, hg⟩ : ∃ g, g = X2.heap.size := ⟨_, rfl⟩
          rw [← hX, ← hg]
          have hb : Below X2.heap.size X2 X3 := by rw [hX]; exact below_alloc _ _
          have K6x3 := Lib.hid (show Blk X3 G6 80 #[.slice none 0 0] by rw [hX, hg]; exact Blk.new _ _ _)
          have HLG6 := Lib.hid (show U.heap.size ≤ G6 by rw [hg]; exact HB2.out.size)
          have NEG6K5 := Lib.hid (show G5 ≠ G6 by have := K5x2.out.lt; omega)
          have HB3 := Lib.hid (HB2.out.trans (hb.mono HB2.out.size))
          have R1x3 := Lib.hid (own_below R1x2.out hb)
          clear R1x2
          have K5x3 := Lib.hid (K5x2.out.below hb)
          clear K5x2
          clear hX hg hb HB2
          refine hK.out _ _ ?_ (fun hH3 => ?_)
          · exact SH.out _ HB3.out
          clear hK K
          try clear hH2
          try simp only [Act.put, List.setIfInBounds_toArray, List.set_cons_zero, List.set_cons_succ]
          refine wpAnyH_ready (rs := [9]) (by kernel_rfl) (by simp) ?_
          refine (AllReadyH.cons (o := Oper.mk (some 16) (Op.call (Call.mk (Callee.value (Operand.func 39)) #[Operand.tmp 13, Operand.tmp 15] #[3, 29])) 80 "group.go:49" #[Edge.mk 6 Ground.data, Edge.mk 8 Ground.data, Edge.mk 4 Ground.chain] none) rfl (fun K hK => ?_) AllReadyH.nil)
          go_simp
          go_at_call 39
          (with_reducible refine (C2.out _ HB3.out).mono ?_)
          rintro e9 X4 ⟨v9, rfl, ho, hb⟩
          obtain ⟨A2, c2, rfl, _, _⟩ := own_slice ho
          have HB4 := Lib.hid (HB3.out.trans (hb.mono HB3.out.size))
          have R2x4 := Lib.hid (own_mono ho HB3.out.size)
          have R1x4 := Lib.hid (own_below R1x3.out hb)
          clear R1x3
          have K5x4 := Lib.hid (K5x3.out.below hb)
          clear K5x3
          have K6x4 := Lib.hid (K6x3.out.below hb)
          clear K6x3
          clear ho hb HB3
          go_wp2_with fail
          refine hK.out _ _ ?_ (fun hH4 => ?_)
          · exact SH.out _ HB4.out
          clear hK K
          try clear hH3
          try simp only [Act.put, List.setIfInBounds_toArray, List.set_cons_zero, List.set_cons_succ]
          refine wpAnyH_ready (rs := [12]) (by kernel_rfl) (by simp) ?_
          refine (AllReadyH.cons (o := Oper.mk none (Op.store 80 (Operand.tmp 5) (Operand.tmp 11)) 0 "group.go:49" #[Edge.mk 10 Ground.data, Edge.mk 4 Ground.data, Edge.mk 9 Ground.chain, Edge.mk 0 Ground.phase, Edge.mk 1 Ground.phase, Edge.mk 2 Ground.phase, Edge.mk 3 Ground.phase, Edge.mk 4 Ground.phase, Edge.mk 5 (Ground.textOnly Departure.lateStores), Edge.mk 6 (Ground.textOnly Departure.lateStoresUnsure), Edge.mk 7 (Ground.textOnly Departure.lateStores), Edge.mk 8 (Ground.textOnly Departure.lateStores), Edge.mk 9 (Ground.textOnly Departure.lateStoresUnsure), Edge.mk 10 Ground.phase, Edge.mk 11 Ground.phase] none) rfl (fun K hK => ?_) AllReadyH.nil)
          have e0 := K5x4.out.cell 0 (v := .slice none 0 0) rfl
          have p0 := K5x4.out.frozen 0
          go_simp
          obtain ⟨X5, hX⟩ : ∃ X, X = X4.setCell ⟨G5, 0, none⟩ (.slice A1 n c1) := ⟨_, rfl⟩
          rw [← hX]
          clear e0 p0
          have HB5 := Lib.hid (show Below U.heap.size U X5 by rw [hX]; exact HB4.out.setCell (p := ⟨G5, 0, none⟩) HLG5.out _)
          have K5x5 := Lib.hid (show Blk X5 G5 80 #[.slice A1 n c1] by rw [hX]; exact K5x4.out.set 0 _)
          have hbs : Beside (fun b => b = G5) X4 X5 := by rw [hX]; exact (Beside.refl (fun b => b = G5) _).set (.inl rfl) 0 _
          have R1x5 := Lib.hid (hbs.keepsOwn R1x4.out (fun q hq e => row_ne_blk R1x4.out K5x4.out (by decide) (by rw [hq, e])))
          have K6x5 := Lib.hid (show Blk X5 G6 _ _ by rw [hX]; exact K6x4.out.other _ _ _ (by first | exact NEG5K6.out | exact (NEG6K5.out).symm))
          have R2x5 := Lib.hid (hbs.keepsOwn R2x4.out (fun q hq e => row_ne_blk R2x4.out K5x4.out (by decide) (by rw [hq, e])))
          clear hX hbs HB4 R1x4 K5x4 K6x4 R2x4
          refine hK.out _ _ ?_ (fun hH5 => ?_)
          · exact SH.out _ HB5.out
          clear hK K
          try clear hH4
          try simp only [Act.put, List.setIfInBounds_toArray, List.set_cons_zero, List.set_cons_succ]
          refine wpAnyH_ready (rs := [13]) (by kernel_rfl) (by simp) ?_
          refine (AllReadyH.cons (o := Oper.mk none (Op.store 80 (Operand.tmp 6) (Operand.tmp 16)) 0 "group.go:49" #[Edge.mk 11 Ground.data, Edge.mk 9 Ground.data, Edge.mk 12 Ground.chain, Edge.mk 0 Ground.phase, Edge.mk 1 Ground.phase, Edge.mk 2 Ground.phase, Edge.mk 3 Ground.phase, Edge.mk 4 Ground.phase, Edge.mk 5 Ground.phase, Edge.mk 6 Ground.phase, Edge.mk 7 Ground.phase, Edge.mk 8 Ground.phase, Edge.mk 9 Ground.phase, Edge.mk 10 Ground.phase, Edge.mk 11 Ground.phase, Edge.mk 12 Ground.phase] none) rfl (fun K hK => ?_) AllReadyH.nil)
          have e0 := K6x5.out.cell 0 (v := .slice none 0 0) rfl
          have p0 := K6x5.out.frozen 0
          go_simp
          obtain ⟨X6, hX⟩ : ∃ X, X = X5.setCell ⟨G6, 0, none⟩ (.slice A2 n c2) := ⟨_, rfl⟩
          rw [← hX]
          clear e0 p0
          have HB6 := Lib.hid (show Below U.heap.size U X6 by rw [hX]; exact HB5.out.setCell (p := ⟨G6, 0, none⟩) HLG6.out _)
          have K6x6 := Lib.hid (show Blk X6 G6 80 #[.slice A2 n c2] by rw [hX]; exact K6x5.out.set 0 _)
          have hbs : Beside (fun b => b = G6) X5 X6 := by rw [hX]; exact (Beside.refl (fun b => b = G6) _).set (.inl rfl) 0 _
          have R1x6 := Lib.hid (hbs.keepsOwn R1x5.out (fun q hq e => row_ne_blk R1x5.out K6x5.out (by decide) (by rw [hq, e])))
          have K5x6 := Lib.hid (show Blk X6 G5 _ _ by rw [hX]; exact K5x5.out.other _ _ _ (by first | exact NEG6K5.out | exact (NEG5K6.out).symm))
          have R2x6 := Lib.hid (hbs.keepsOwn R2x5.out (fun q hq e => row_ne_blk R2x5.out K6x5.out (by decide) (by rw [hq, e])))
          clear hX hbs HB5 R1x5 K5x5 K6x5 R2x5
          refine hK.out _ _ ?_ (fun hH6 => ?_)
          · exact SH.out _ HB6.out
          clear hK K
          try clear hH5
          try simp only [Act.put, List.setIfInBounds_toArray, List.set_cons_zero, List.set_cons_succ]
          refine wpAnyH_done (by kernel_rfl) ?_ _
          go_wp2_with fail
          go_meet
          exact ⟨G5, G6, A1, c1, A2, c2, rfl, rfl, K5x6, K6x6, R1x6, R2x6, HB6⟩
      · go_simp
        obtain ⟨X2, hX⟩ : ∃ X, X = X1.alloc (.cells #[.slice none 0 0] 80) := ⟨_, rfl⟩
        obtain ⟨G6, hg⟩ : ∃ g, g = X1.heap.size := ⟨_, rfl⟩
        rw [← hX, ← hg]
        have hb : Below X1.heap.size X1 X2 := by rw [hX]; exact below_alloc _ _
        have K6x2 := Lib.hid (show Blk X2 G6 80 #[.slice none 0 0] by rw [hX, hg]; exact Blk.new _ _ _)
        have HLG6 := Lib.hid (show U.heap.size ≤ G6 by rw [hg]; exact HB1.out.size)
        have HB2 := Lib.hid (HB1.out.trans (hb.mono HB1.out.size))
        have R1x2 := Lib.hid (own_below R1x1.out hb)
        clear R1x1
        clear hX hg hb HB1
        refine hK.out _ _ ?_ (fun hH2 => ?_)
        · exact SH.out _ HB2.out
        clear hK K
        try clear hH1
        try simp only [Act.put, List.setIfInBounds_toArray, List.set_cons_zero, List.set_cons_succ]
        refine wpAnyH_ready (rs := [9, 10]) (by kernel_rfl) (by simp) ?_
        refine (AllReadyH.cons (o := Oper.mk (some 16) (Op.call (Call.mk (Callee.value (Operand.func 39)) #[Operand.tmp 13, Operand.tmp 15] #[3, 29])) 80 "group.go:49" #[Edge.mk 6 Ground.data, Edge.mk 8 Ground.data, Edge.mk 4 Ground.chain] none) rfl (fun K hK => ?_) (AllReadyH.cons (o := Oper.mk (some 5) (Op.alloc 80) 0 "group.go:49" #[] none) rfl (fun K hK => ?_) AllReadyH.nil))
        · go_simp
          go_at_call 39
          (with_reducible refine (C2.out _ HB2.out).mono ?_)
          rintro e9 X3 ⟨v9, rfl, ho, hb⟩
          obtain ⟨A2, c2, rfl, _, _⟩ := own_slice ho
          have HB3 := Lib.hid (HB2.out.trans (hb.mono HB2.out.size))
          have R2x3 := Lib.hid (own_mono ho HB2.out.size)
          have R1x3 := Lib.hid (own_below R1x2.out hb)
          clear R1x2
          have K6x3 := Lib.hid (K6x2.out.below hb)
          clear K6x2
          clear ho hb HB2
          go_wp2_with fail
          refine hK.out _ _ ?_ (fun hH3 => ?_)
          · exact SH.out _ HB3.out
          clear hK K
          try clear hH2
          try simp only [Act.put, List.setIfInBounds_toArray, List.set_cons_zero, List.set_cons_succ]
          refine wpAnyH_ready (rs := [10]) (by kernel_rfl) (by simp) ?_
          refine (AllReadyH.cons (o := Oper.mk (some 5) (Op.alloc 80) 0 "group.go:49" #[] none) rfl (fun K hK => ?_) AllReadyH.nil)
          go_simp
          obtain ⟨X4, hX⟩ : ∃ X, X = X3.alloc (.cells #[.slice none 0 0] 80) := ⟨_, rfl⟩
          obtain ⟨G5, hg⟩ : ∃ g, g = X3.heap.size := ⟨_, rfl⟩
          rw [← hX, ← hg]
          have hb : Below X3.heap.size X3 X4 := by rw [hX]; exact below_alloc _ _
          have K5x4 := Lib.hid (show Blk X4 G5 80 #[.slice none 0 0] by rw [hX, hg]; exact Blk.new _ _ _)
          have HLG5 := Lib.hid (show U.heap.size ≤ G5 by rw [hg]; exact HB3.out.size)
          have NEG5K6 := Lib.hid (show G6 ≠ G5 by have := K6x3.out.lt; omega)
          have HB4 := Lib.hid (HB3.out.trans (hb.mono HB3.out.size))
          have R1x4 := Lib.hid (own_below R1x3.out hb)
          clear R1x3
          have K6x4 := Lib.hid (K6x3.out.below hb)
          clear K6x3
          have R2x4 := Lib.hid (own_below R2x3.out hb)
          clear R2x3
          clear hX hg hb HB3
          refine hK.out _ _ ?_ (fun hH4 => ?_)
          · exact SH.out _ HB4.out
          clear hK K
          try clear hH3
          try simp only [Act.put, List.setIfInBounds_toArray, List.set_cons_zero, List.set_cons_succ]
          refine wpAnyH_ready (rs := [12]) (by kernel_rfl) (by simp) ?_
          refine (AllReadyH.cons (o := Oper.mk none (Op.store 80 (Operand.tmp 5) (Operand.tmp 11)) 0 "group.go:49" #[Edge.mk 10 Ground.data, Edge.mk 4 Ground.data, Edge.mk 9 Ground.chain, Edge.mk 0 Ground.phase, Edge.mk 1 Ground.phase, Edge.mk 2 Ground.phase, Edge.mk 3 Ground.phase, Edge.mk 4 Ground.phase, Edge.mk 5 (Ground.textOnly Departure.lateStores), Edge.mk 6 (Ground.textOnly Departure.lateStoresUnsure), Edge.mk 7 (Ground.textOnly Departure.lateStores), Edge.mk 8 (Ground.textOnly Departure.lateStores), Edge.mk 9 (Ground.textOnly Departure.lateStoresUnsure), Edge.mk 10 Ground.phase, Edge.mk 11 Ground.phase] none) rfl (fun K hK => ?_) AllReadyH.nil)
          have e0 := K5x4.out.cell 0 (v := .slice none 0 0) rfl
          have p0 := K5x4.out.frozen 0
          go_simp
          obtain ⟨X5, hX⟩ : ∃ X, X = X4.setCell ⟨G5, 0, none⟩ (.slice A1 n c1) := ⟨_, rfl⟩
          rw [← hX]
          clear e0 p0
          have HB5 := Lib.hid (show Below U.heap.size U X5 by rw [hX]; exact HB4.out.setCell (p := ⟨G5, 0, none⟩) HLG5.out _)
          have K5x5 := Lib.hid (show Blk X5 G5 80 #[.slice A1 n c1] by rw [hX]; exact K5x4.out.set 0 _)
          have hbs : Beside (fun b => b = G5) X4 X5 := by rw [hX]; exact (Beside.refl (fun b => b = G5) _).set (.inl rfl) 0 _
          have R1x5 := Lib.hid (hbs.keepsOwn R1x4.out (fun q hq e => row_ne_blk R1x4.out K5x4.out (by decide) (by rw [hq, e])))
          have K6x5 := Lib.hid (show Blk X5 G6 _ _ by rw [hX]; exact K6x4.out.other _ _ _ (by first | exact NEG5K6.out | exact (NEG6K5.out).symm))
          have R2x5 := Lib.hid (hbs.keepsOwn R2x4.out (fun q hq e => row_ne_blk R2x4.out K5x4.out (by decide) (by rw [hq, e])))
          clear hX hbs HB4 R1x4 K6x4 R2x4 K5x4
          refine hK.out _ _ ?_ (fun hH5 => ?_)
          · exact SH.out _ HB5.out
          clear hK K
          try clear hH4
          try simp only [Act.put, List.setIfInBounds_toArray, List.set_cons_zero, List.set_cons_succ]
          refine wpAnyH_ready (rs := [13]) (by kernel_rfl) (by simp) ?_
          refine (AllReadyH.cons (o := Oper.mk none (Op.store 80 (Operand.tmp 6) (Operand.tmp 16)) 0 "group.go:49" #[Edge.mk 11 Ground.data, Edge.mk 9 Ground.data, Edge.mk 12 Ground.chain, Edge.mk 0 Ground.phase, Edge.mk 1 Ground.phase, Edge.mk 2 Ground.phase, Edge.mk 3 Ground.phase, Edge.mk 4 Ground.phase, Edge.mk 5 Ground.phase, Edge.mk 6 Ground.phase, Edge.mk 7 Ground.phase, Edge.mk 8 Ground.phase, Edge.mk 9 Ground.phase, Edge.mk 10 Ground.phase, Edge.mk 11 Ground.phase, Edge.mk 12 Ground.phase] none) rfl (fun K hK => ?_) AllReadyH.nil)
          have e0 := K6x5.out.cell 0 (v := .slice none 0 0) rfl
          have p0 := K6x5.out.frozen 0
          go_simp
          obtain ⟨X6, hX⟩ : ∃ X, X = X5.setCell ⟨G6, 0, none⟩ (.slice A2 n c2) := ⟨_, rfl⟩
          rw [← hX]
          clear e0 p0
          have HB6 := Lib.hid (show Below U.heap.size U X6 by rw [hX]; exact HB5.out.setCell (p := ⟨G6, 0, none⟩) HLG6.out _)
          have K6x6 := Lib.hid (show Blk X6 G6 80 #[.slice A2 n c2] by rw [hX]; exact K6x5.out.set 0 _)
          have hbs : Beside (fun b => b = G6) X5 X6 := by rw [hX]; exact (Beside.refl (fun b => b = G6) _).set (.inl rfl) 0 _
          have R1x6 := Lib.hid (hbs.keepsOwn R1x5.out (fun q hq e => row_ne_blk R1x5.out K6x5.out (by decide) (by rw [hq, e])))
          have R2x6 := Lib.hid (hbs.keepsOwn R2x5.out (fun q hq e => row_ne_blk R2x5.out K6x5.out (by decide) (by rw [hq, e])))
          have K5x6 := Lib.hid (show Blk X6 G5 _ _ by rw [hX]; exact K5x5.out.other _ _ _ (by first | exact NEG6K5.out | exact (NEG5K6.out).symm))
          clear hX hbs HB5 R1x5 K6x5 R2x5 K5x5
          refine hK.out _ _ ?_ (fun hH6 => ?_)
          · exact SH.out _ HB6.out
          clear hK K
          try clear hH5
          try simp only [Act.put, List.setIfInBounds_toArray, List.set_cons_zero, List.set_cons_succ]
          refine wpAnyH_done (by kernel_rfl) ?_ _
          go_wp2_with fail
          go_meet
          exact ⟨G5, G6, A1, c1, A2, c2, rfl, rfl, K5x6, K6x6, R1x6, R2x6, HB6⟩
        · go_simp
          obtain ⟨X3, hX⟩ : ∃ X, X = X2.alloc (.cells #[.slice none 0 0] 80) := ⟨_, rfl⟩
          obtain ⟨G5, hg⟩ : ∃ g, g = X2.heap.size := ⟨_, rfl⟩
          rw [← hX, ← hg]
          have hb : Below X2.heap.size X2 X3 := by rw [hX]; exact below_alloc _ _
          have K5x3 := Lib.hid (show Blk X3 G5 80 #[.slice none 0 0] by rw [hX, hg]; exact Blk.new _ _ _)
          have HLG5 := Lib.hid (show U.heap.size ≤ G5 by rw [hg]; exact HB2.out.size)
          have NEG5K6 := Lib.hid (show G6 ≠ G5 by have := K6x2.out.lt; omega)
          have HB3 := Lib.hid (HB2.out.trans (hb.mono HB2.out.size))
          have R1x3 := Lib.hid (own_below R1x2.out hb)
          clear R1x2
          have K6x3 := Lib.hid (K6x2.out.below hb)
          clear K6x2
          clear hX hg hb HB2
          refine hK.out _ _ ?_ (fun hH3 => ?_)
          · exact SH.out _ HB3.out
          clear hK K
          try clear hH2
          try simp only [Act.put, List.setIfInBounds_toArray, List.set_cons_zero, List.set_cons_succ]
          refine wpAnyH_ready (rs := [9]) (by kernel_rfl) (by simp) ?_
          refine (AllReadyH.cons (o := Oper.mk (some 16) (Op.call (Call.mk (Callee.value (Operand.func 39)) #[Operand.tmp 13, Operand.tmp 15] #[3, 29])) 80 "group.go:49" #[Edge.mk 6 Ground.data, Edge.mk 8 Ground.data, Edge.mk 4 Ground.chain] none) rfl (fun K hK => ?_) AllReadyH.nil)
          go_simp
          go_at_call 39
          (with_reducible refine (C2.out _ HB3.out).mono ?_)
          rintro e9 X4 ⟨v9, rfl, ho, hb⟩
          obtain ⟨A2, c2, rfl, _, _⟩ := own_slice ho
          have HB4 := Lib.hid (HB3.out.trans (hb.mono HB3.out.size))
          have R2x4 := Lib.hid (own_mono ho HB3.out.size)
          have R1x4 := Lib.hid (own_below R1x3.out hb)
          clear R1x3
          have K6x4 := Lib.hid (K6x3.out.below hb)
          clear K6x3
          have K5x4 := Lib.hid (K5x3.out.below hb)
          clear K5x3
          clear ho hb HB3
          go_wp2_with fail
          refine hK.out _ _ ?_ (fun hH4 => ?_)
          · exact SH.out _ HB4.out
          clear hK K
          try clear hH3
          try simp only [Act.put, List.setIfInBounds_toArray, List.set_cons_zero, List.set_cons_succ]
          refine wpAnyH_ready (rs := [12]) (by kernel_rfl) (by simp) ?_
          refine (AllReadyH.cons (o := Oper.mk none (Op.store 80 (Operand.tmp 5) (Operand.tmp 11)) 0 "group.go:49" #[Edge.mk 10 Ground.data, Edge.mk 4 Ground.data, Edge.mk 9 Ground.chain, Edge.mk 0 Ground.phase, Edge.mk 1 Ground.phase, Edge.mk 2 Ground.phase, Edge.mk 3 Ground.phase, Edge.mk 4 Ground.phase, Edge.mk 5 (Ground.textOnly Departure.lateStores), Edge.mk 6 (Ground.textOnly Departure.lateStoresUnsure), Edge.mk 7 (Ground.textOnly Departure.lateStores), Edge.mk 8 (Ground.textOnly Departure.lateStores), Edge.mk 9 (Ground.textOnly Departure.lateStoresUnsure), Edge.mk 10 Ground.phase, Edge.mk 11 Ground.phase] none) rfl (fun K hK => ?_) AllReadyH.nil)
          have e0 := K5x4.out.cell 0 (v := .slice none 0 0) rfl
          have p0 := K5x4.out.frozen 0
          go_simp
          obtain ⟨X5, hX⟩ : ∃ X, X = X4.setCell ⟨G5, 0, none⟩ (.slice A1 n c1) := ⟨_, rfl⟩
          rw [← hX]
          clear e0 p0
          have HB5 := Lib.hid (show Below U.heap.size U X5 by rw [hX]; exact HB4.out.setCell (p := ⟨G5, 0, none⟩) HLG5.out _)
          have K5x5 := Lib.hid (show Blk X5 G5 80 #[.slice A1 n c1] by rw [hX]; exact K5x4.out.set 0 _)
          have hbs : Beside (fun b => b = G5) X4 X5 := by rw [hX]; exact (Beside.refl (fun b => b = G5) _).set (.inl rfl) 0 _
          have R1x5 := Lib.hid (hbs.keepsOwn R1x4.out (fun q hq e => row_ne_blk R1x4.out K5x4.out (by decide) (by rw [hq, e])))
          have K6x5 := Lib.hid (show Blk X5 G6 _ _ by rw [hX]; exact K6x4.out.other _ _ _ (by first | exact NEG5K6.out | exact (NEG6K5.out).symm))
          have R2x5 := Lib.hid (hbs.keepsOwn R2x4.out (fun q hq e => row_ne_blk R2x4.out K5x4.out (by decide) (by rw [hq, e])))
          clear hX hbs HB4 R1x4 K6x4 K5x4 R2x4
          refine hK.out _ _ ?_ (fun hH5 => ?_)
          · exact SH.out _ HB5.out
          clear hK K
          try clear hH4
          try simp only [Act.put, List.setIfInBounds_toArray, List.set_cons_zero, List.set_cons_succ]
          refine wpAnyH_ready (rs := [13]) (by kernel_rfl) (by simp) ?_
          refine (AllReadyH.cons (o := Oper.mk none (Op.store 80 (Operand.tmp 6) (Operand.tmp 16)) 0 "group.go:49" #[Edge.mk 11 Ground.data, Edge.mk 9 Ground.data, Edge.mk 12 Ground.chain, Edge.mk 0 Ground.phase, Edge.mk 1 Ground.phase, Edge.mk 2 Ground.phase, Edge.mk 3 Ground.phase, Edge.mk 4 Ground.phase, Edge.mk 5 Ground.phase, Edge.mk 6 Ground.phase, Edge.mk 7 Ground.phase, Edge.mk 8 Ground.phase, Edge.mk 9 Ground.phase, Edge.mk 10 Ground.phase, Edge.mk 11 Ground.phase, Edge.mk 12 Ground.phase] none) rfl (fun K hK => ?_) AllReadyH.nil)
          have e0 := K6x5.out.cell 0 (v := .slice none 0 0) rfl
          have p0 := K6x5.out.frozen 0
          go_simp
          obtain ⟨X6, hX⟩ : ∃ X, X = X5.setCell ⟨G6, 0, none⟩ (.slice A2 n c2) := ⟨_, rfl⟩
          rw [← hX]
          clear e0 p0
          have HB6 := Lib.hid (show Below U.heap.size U X6 by rw [hX]; exact HB5.out.setCell (p := ⟨G6, 0, none⟩) HLG6.out _)
          have K6x6 := Lib.hid (show Blk X6 G6 80 #[.slice A2 n c2] by rw [hX]; exact K6x5.out.set 0 _)
          have hbs : Beside (fun b => b = G6) X5 X6 := by rw [hX]; exact (Beside.refl (fun b => b = G6) _).set (.inl rfl) 0 _
          have R1x6 := Lib.hid (hbs.keepsOwn R1x5.out (fun q hq e => row_ne_blk R1x5.out K6x5.out (by decide) (by rw [hq, e])))
          have K5x6 := Lib.hid (show Blk X6 G5 _ _ by rw [hX]; exact K5x5.out.other _ _ _ (by first | exact NEG6K5.out | exact (NEG5K6.out).symm))
          have R2x6 := Lib.hid (hbs.keepsOwn R2x5.out (fun q hq e => row_ne_blk R2x5.out K6x5.out (by decide) (by rw [hq, e])))
          clear hX hbs HB5 R1x5 K6x5 K5x5 R2x5
          refine hK.out _ _ ?_ (fun hH6 => ?_)
          · exact SH.out _ HB6.out
          clear hK K
          try clear hH5
          try simp only [Act.put, List.setIfInBounds_toArray, List.set_cons_zero, List.set_cons_succ]
          refine wpAnyH_done (by kernel_rfl) ?_ _
          go_wp2_with fail
          go_meet
          exact ⟨G5, G6, A1, c1, A2, c2, rfl, rfl, K5x6, K6x6, R1x6, R2x6, HB6⟩
    · go_simp
      obtain ⟨X1, hX⟩ : ∃ X, X = X0.alloc (.cells #[.slice none 0 0] 80) := ⟨_, rfl⟩
      obtain ⟨G5, hg⟩ : ∃ g, g = X0.heap.size := ⟨_, rfl⟩
      rw [← hX, ← hg]
      have hb : Below X0.heap.size X0 X1 := by rw [hX]; exact below_alloc _ _
      have K5x1 := Lib.hid (show Blk X1 G5 80 #[.slice none 0 0] by rw [hX, hg]; exact Blk.new _ _ _)
      have HLG5 := Lib.hid (show U.heap.size ≤ G5 by rw [hg]; exact HB0.out.size)
      have HB1 := Lib.hid (HB0.out.trans (hb.mono HB0.out.size))
      clear hX hg hb HB0
      refine hK.out _ _ ?_ (fun hH1 => ?_)
      · exact SH.out _ HB1.out
      clear hK K
      try clear hH0
      try simp only [Act.put, List.setIfInBounds_toArray, List.set_cons_zero, List.set_cons_succ]
      refine wpAnyH_ready (rs := [4, 11]) (by kernel_rfl) (by simp) ?_
      refine (AllReadyH.cons (o := Oper.mk (some 11) (Op.call (Call.mk (Callee.value (Operand.func 39)) #[Operand.tmp 8, Operand.tmp 10] #[3, 29])) 80 "group.go:49" #[Edge.mk 1 Ground.data, Edge.mk 3 Ground.data] none) rfl (fun K hK => ?_) (AllReadyH.cons (o := Oper.mk (some 6) (Op.alloc 80) 0 "group.go:49" #[] none) rfl (fun K hK => ?_) AllReadyH.nil))
      · go_simp
        go_at_call 39
        (with_reducible refine (C1.out _ HB1.out).mono ?_)
        rintro e9 X2 ⟨v9, rfl, ho, hb⟩
        obtain ⟨A1, c1, rfl, _, _⟩ := own_slice ho
        have HB2 := Lib.hid (HB1.out.trans (hb.mono HB1.out.size))
        have R1x2 := Lib.hid (own_mono ho HB1.out.size)
        have K5x2 := Lib.hid (K5x1.out.below hb)
        clear K5x1
        clear ho hb HB1
        go_wp2_with fail
        refine hK.out _ _ ?_ (fun hH2 => ?_)
        · exact SH.out _ HB2.out
        clear hK K
        try clear hH1
        try simp only [Act.put, List.setIfInBounds_toArray, List.set_cons_zero, List.set_cons_succ]
        refine wpAnyH_ready (rs := [9, 11]) (by kernel_rfl) (by simp) ?_
        refine (AllReadyH.cons (o := Oper.mk (some 16) (Op.call (Call.mk (Callee.value (Operand.func 39)) #[Operand.tmp 13, Operand.tmp 15] #[3, 29])) 80 "group.go:49" #[Edge.mk 6 Ground.data, Edge.mk 8 Ground.data, Edge.mk 4 Ground.chain] none) rfl (fun K hK => ?_) (AllReadyH.cons (o := Oper.mk (some 6) (Op.alloc 80) 0 "group.go:49" #[] none) rfl (fun K hK => ?_) AllReadyH.nil))
        · go_simp
          go_at_call 39
          (with_reducible refine (C2.out _ HB2.out).mono ?_)
          rintro e9 X3 ⟨v9, rfl, ho, hb⟩
          obtain ⟨A2, c2, rfl, _, _⟩ := own_slice ho
          have HB3 := Lib.hid (HB2.out.trans (hb.mono HB2.out.size))
          have R2x3 := Lib.hid (own_mono ho HB2.out.size)
          have K5x3 := Lib.hid (K5x2.out.below hb)
          clear K5x2
          have R1x3 := Lib.hid (own_below R1x2.out hb)
          clear R1x2
          clear ho hb HB2
          go_wp2_with fail
          refine hK.out _ _ ?_ (fun hH3 => ?_)
          · exact SH.out _ HB3.out
          clear hK K
          try clear hH2
          try simp only [Act.put, List.setIfInBounds_toArray, List.set_cons_zero, List.set_cons_succ]
          refine wpAnyH_ready (rs := [11]) (by kernel_rfl) (by simp) ?_
          refine (AllReadyH.cons (o := Oper.mk (some 6) (Op.alloc 80) 0 "group.go:49" #[] none) rfl (fun K hK => ?_) AllReadyH.nil)
          go_simp
          obtain ⟨X4, hX⟩ : ∃ X, X = X3.alloc (.cells #[.slice none 0 0] 80) := ⟨_, rfl⟩
          obtain ⟨G6, hg⟩ : ∃ g, g = X3.heap.size := ⟨_, rfl⟩
          rw [← hX, ← hg]
          have hb : Below X3.heap.size X3 X4 := by rw [hX]; exact below_alloc _ _
          have K6x4 := Lib.hid (show Blk X4 G6 80 #[.slice none 0 0] by rw [hX, hg]; exact Blk.new _ _ _)
          have HLG6 := Lib.hid (show U.heap.size ≤ G6 by rw [hg]; exact HB3.out.size)
          have NEG6K5 := Lib.hid (show G5 ≠ G6 by have := K5x3.out.lt; omega)
          have HB4 := Lib.hid (HB3.out.trans (hb.mono HB3.out.size))
          have K5x4 := Lib.hid (K5x3.out.below hb)
          clear K5x3
          have R1x4 := Lib.hid (own_below R1x3.out hb)
          clear R1x3
          have R2x4 := Lib.hid (own_below R2x3.out hb)
          clear R2x3
          clear hX hg hb HB3
          refine hK.out _ _ ?_ (fun hH4 => ?_)
          · exact SH.out _ HB4.out
          clear hK K
          try clear hH3
          try simp only [Act.put, List.setIfInBounds_toArray, List.set_cons_zero, List.set_cons_succ]
          refine wpAnyH_ready (rs := [12]) (by kernel_rfl) (by simp) ?_
          refine (AllReadyH.cons (o := Oper.mk none (Op.store 80 (Operand.tmp 5) (Operand.tmp 11)) 0 "group.go:49" #[Edge.mk 10 Ground.data, Edge.mk 4 Ground.data, Edge.mk 9 Ground.chain, Edge.mk 0 Ground.phase, Edge.mk 1 Ground.phase, Edge.mk 2 Ground.phase, Edge.mk 3 Ground.phase, Edge.mk 4 Ground.phase, Edge.mk 5 (Ground.textOnly Departure.lateStores), Edge.mk 6 (Ground.textOnly Departure.lateStoresUnsure), Edge.mk 7 (Ground.textOnly Departure.lateStores), Edge.mk 8 (Ground.textOnly Departure.lateStores), Edge.mk 9 (Ground.textOnly Departure.lateStoresUnsure), Edge.mk 10 Ground.phase, Edge.mk 11 Ground.phase] none) rfl (fun K hK => ?_) AllReadyH.nil)
          have e0 := K5x4.out.cell 0 (v := .slice none 0 0) rfl
          have p0 := K5x4.out.frozen 0
          go_simp
          obtain ⟨X5, hX⟩ : ∃ X, X = X4.setCell ⟨G5, 0, none⟩ (.slice A1 n c1) := ⟨_, rfl⟩
          rw [← hX]
          clear e0 p0
          have HB5 := Lib.hid (show Below U.heap.size U X5 by rw [hX]; exact HB4.out.setCell (p := ⟨G5, 0, none⟩) HLG5.out _)
          have K5x5 := Lib.hid (show Blk X5 G5 80 #[.slice A1 n c1] by rw [hX]; exact K5x4.out.set 0 _)
          have hbs : Beside (fun b => b = G5) X4 X5 := by rw [hX]; exact (Beside.refl (fun b => b = G5) _).set (.inl rfl) 0 _
          have R1x5 := Lib.hid (hbs.keepsOwn R1x4.out (fun q hq e => row_ne_blk R1x4.out K5x4.out (by decide) (by rw [hq, e])))
          have R2x5 := Lib.hid (hbs.keepsOwn R2x4.out (fun q hq e => row_ne_blk R2x4.out K5x4.out (by decide) (by rw [hq, e])))
          have K6x5 := Lib.hid (show Blk X5 G6 _ _ by rw [hX]; exact K6x4.out.other _ _ _ (by first | exact NEG5K6.out | exact (NEG6K5.out).symm))
          clear hX hbs HB4 K5x4 R1x4 R2x4 K6x4
          refine hK.out _ _ ?_ (fun hH5 => ?_)
          · exact SH.out _ HB5.out
          clear hK K
          try clear hH4
          try simp only [Act.put, List.setIfInBounds_toArray, List.set_cons_zero, List.set_cons_succ]
          refine wpAnyH_ready (rs := [13]) (by kernel_rfl) (by simp) ?_
          refine (AllReadyH.cons (o := Oper.mk none (Op.store 80 (Operand.tmp 6) (Operand.tmp 16)) 0 "group.go:49" #[Edge.mk 11 Ground.data, Edge.mk 9 Ground.data, Edge.mk 12 Ground.chain, Edge.mk 0 Ground.phase, Edge.mk 1 Ground.phase, Edge.mk 2 Ground.phase, Edge.mk 3 Ground.phase, Edge.mk 4 Ground.phase, Edge.mk 5 Ground.phase, Edge.mk 6 Ground.phase, Edge.mk 7 Ground.phase, Edge.mk 8 Ground.phase, Edge.mk 9 Ground.phase, Edge.mk 10 Ground.phase, Edge.mk 11 Ground.phase, Edge.mk 12 Ground.phase] none) rfl (fun K hK => ?_) AllReadyH.nil)
          have e0 := K6x5.out.cell 0 (v := .slice none 0 0) rfl
          have p0 := K6x5.out.frozen 0
          go_simp
          obtain ⟨X6, hX⟩ : ∃ X, X = X5.setCell ⟨G6, 0, none⟩ (.slice A2 n c2) := ⟨_, rfl⟩
          rw [← hX]
          clear e0 p0
          have HB6 := Lib.hid (show Below U.heap.size U X6 by rw [hX]; exact HB5.out.setCell (p := ⟨G6, 0, none⟩) HLG6.out _)
          have K6x6 := Lib.hid (show Blk X6 G6 80 #[.slice A2 n c2] by rw [hX]; exact K6x5.out.set 0 _)
          have hbs : Beside (fun b => b = G6) X5 X6 := by rw [hX]; exact (Beside.refl (fun b => b = G6) _).set (.inl rfl) 0 _
          have K5x6 := Lib.hid (show Blk X6 G5 _ _ by rw [hX]; exact K5x5.out.other _ _ _ (by first | exact NEG6K5.out | exact (NEG5K6.out).symm))
          have R1x6 := Lib.hid (hbs.keepsOwn R1x5.out (fun q hq e => row_ne_blk R1x5.out K6x5.out (by decide) (by rw [hq, e])))
          have R2x6 := Lib.hid (hbs.keepsOwn R2x5.out (fun q hq e => row_ne_blk R2x5.out K6x5.out (by decide) (by rw [hq, e])))
          clear hX hbs HB5 K5x5 R1x5 R2x5 K6x5
          refine hK.out _ _ ?_ (fun hH6 => ?_)
          · exact SH.out _ HB6.out
          clear hK K
          try clear hH5
          try simp only [Act.put, List.setIfInBounds_toArray, List.set_cons_zero, List.set_cons_succ]
          refine wpAnyH_done (by kernel_rfl) ?_ _
          go_wp2_with fail
          go_meet
          exact ⟨G5, G6, A1, c1, A2, c2, rfl, rfl, K5x6, K6x6, R1x6, R2x6, HB6⟩
        · go_simp
          obtain ⟨X3, hX⟩ : ∃ X, X = X2.alloc (.cells #[.slice none 0 0] 80) := ⟨_, rfl⟩
          obtain ⟨G6, hg⟩ : ∃ g, g = X2.heap.size := ⟨_, rfl⟩
          rw [← hX, ← hg]
          have hb : Below X2.heap.size X2 X3 := by rw [hX]; exact below_alloc _ _
          have K6x3 := Lib.hid (show Blk X3 G6 80 #[.slice none 0 0] by rw [hX, hg]; exact Blk.new _ _ _)
          have HLG6 := Lib.hid (show U.heap.size ≤ G6 by rw [hg]; exact HB2.out.size)
          have NEG6K5 := Lib.hid (show G5 ≠ G6 by have := K5x2.out.lt; omega)
          have HB3 := Lib.hid (HB2.out.trans (hb.mono HB2.out.size))
          have K5x3 := Lib.hid (K5x2.out.below hb)
          clear K5x2
          have R1x3 := Lib.hid (own_below R1x2.out hb)
          clear R1x2
          clear hX hg hb HB2
          refine hK.out _ _ ?_ (fun hH3 => ?_)
          · exact SH.out _ HB3.out
          clear hK K
          try clear hH2
          try simp only [Act.put, List.setIfInBounds_toArray, List.set_cons_zero, List.set_cons_succ]
          refine wpAnyH_ready (rs := [9]) (by kernel_rfl) (by simp) ?_
          refine (AllReadyH.cons (o := Oper.mk (some 16) (Op.call (Call.mk (Callee.value (Operand.func 39)) #[Operand.tmp 13, Operand.tmp 15] #[3, 29])) 80 "group.go:49" #[Edge.mk 6 Ground.data, Edge.mk 8 Ground.data, Edge.mk 4 Ground.chain] none) rfl (fun K hK => ?_) AllReadyH.nil)
          go_simp
          go_at_call 39
          (with_reducible refine (C2.out _ HB3.out).mono ?_)
          rintro e9 X4 ⟨v9, rfl, ho, hb⟩
          obtain ⟨A2, c2, rfl, _, _⟩ := own_slice ho
          have HB4 := Lib.hid (HB3.out.trans (hb.mono HB3.out.size))
          have R2x4 := Lib.hid (own_mono ho HB3.out.size)
          have K5x4 := Lib.hid (K5x3.out.below hb)
          clear K5x3
          have R1x4 := Lib.hid (own_below R1x3.out hb)
          clear R1x3
          have K6x4 := Lib.hid (K6x3.out.below hb)
          clear K6x3
          clear ho hb HB3
          go_wp2_with fail
          refine hK.out _ _ ?_ (fun hH4 => ?_)
          · exact SH.out _ HB4.out
          clear hK K
          try clear hH3
          try simp only [Act.put, List.setIfInBounds_toArray, List.set_cons_zero, List.set_cons_succ]
          refine wpAnyH_ready (rs := [12]) (by kernel_rfl) (by simp) ?_
          refine (AllReadyH.cons (o := Oper.mk none (Op.store 80 (Operand.tmp 5) (Operand.tmp 11)) 0 "group.go:49" #[Edge.mk 10 Ground.data, Edge.mk 4 Ground.data, Edge.mk 9 Ground.chain, Edge.mk 0 Ground.phase, Edge.mk 1 Ground.phase, Edge.mk 2 Ground.phase, Edge.mk 3 Ground.phase, Edge.mk 4 Ground.phase, Edge.mk 5 (Ground.textOnly Departure.lateStores), Edge.mk 6 (Ground.textOnly Departure.lateStoresUnsure), Edge.mk 7 (Ground.textOnly Departure.lateStores), Edge.mk 8 (Ground.textOnly Departure.lateStores), Edge.mk 9 (Ground.textOnly Departure.lateStoresUnsure), Edge.mk 10 Ground.phase, Edge.mk 11 Ground.phase] none) rfl (fun K hK => ?_) AllReadyH.nil)
          have e0 := K5x4.out.cell 0 (v := .slice none 0 0) rfl
          have p0 := K5x4.out.frozen 0
          go_simp
          obtain ⟨X5, hX⟩ : ∃ X, X = X4.setCell ⟨G5, 0, none⟩ (.slice A1 n c1) := ⟨_, rfl⟩
          rw [← hX]
          clear e0 p0
          have HB5 := Lib.hid (show Below U.heap.size U X5 by rw [hX]; exact HB4.out.setCell (p := ⟨G5, 0, none⟩) HLG5.out _)
          have K5x5 := Lib.hid (show Blk X5 G5 80 #[.slice A1 n c1] by rw [hX]; exact K5x4.out.set 0 _)
          have hbs : Beside (fun b => b = G5) X4 X5 := by rw [hX]; exact (Beside.refl (fun b => b = G5) _).set (.inl rfl) 0 _
          have R1x5 := Lib.hid (hbs.keepsOwn R1x4.out (fun q hq e => row_ne_blk R1x4.out K5x4.out (by decide) (by rw [hq, e])))
          have K6x5 := Lib.hid (show Blk X5 G6 _ _ by rw [hX]; exact K6x4.out.other _ _ _ (by first | exact NEG5K6.out | exact (NEG6K5.out).symm))
          have R2x5 := Lib.hid (hbs.keepsOwn R2x4.out (fun q hq e => row_ne_blk R2x4.out K5x4.out (by decide) (by rw [hq, e])))
          clear hX hbs HB4 K5x4 R1x4 K6x4 R2x4
          refine hK.out _ _ ?_ (fun hH5 => ?_)
          · exact SH.out _ HB5.out
          clear hK K
          try clear hH4
          try simp only [Act.put, List.setIfInBounds_toArray, List.set_cons_zero, List.set_cons_succ]
          refine wpAnyH_ready (rs := [13]) (by kernel_rfl) (by simp) ?_
          refine (AllReadyH.cons (o := Oper.mk none (Op.store 80 (Operand.tmp 6) (Operand.tmp 16)) 0 "group.go:49" #[Edge.mk 11 Ground.data, Edge.mk 9 Ground.data, Edge.mk 12 Ground.chain, Edge.mk 0 Ground.phase, Edge.mk 1 Ground.phase, Edge.mk 2 Ground.phase, Edge.mk 3 Ground.phase, Edge.mk 4 Ground.phase, Edge.mk 5 Ground.phase, Edge.mk 6 Ground.phase, Edge.mk 7 Ground.phase, Edge.mk 8 Ground.phase, Edge.mk 9 Ground.phase, Edge.mk 10 Ground.phase, Edge.mk 11 Ground.phase, Edge.mk 12 Ground.phase] none) rfl (fun K hK => ?_) AllReadyH.nil)
          have e0 := K6x5.out.cell 0 (v := .slice none 0 0) rfl
          have p0 := K6x5.out.frozen 0
          go_simp
          obtain ⟨X6, hX⟩ : ∃ X, X = X5.setCell ⟨G6, 0, none⟩ (.slice A2 n c2) := ⟨_, rfl⟩
          rw [← hX]
          clear e0 p0
          have HB6 := Lib.hid (show Below U.heap.size U X6 by rw [hX]; exact HB5.out.setCell (p := ⟨G6, 0, none⟩) HLG6.out _)
          have K6x6 := Lib.hid (show Blk X6 G6 80 #[.slice A2 n c2] by rw [hX]; exact K6x5.out.set 0 _)
          have hbs : Beside (fun b => b = G6) X5 X6 := by rw [hX]; exact (Beside.refl (fun b => b = G6) _).set (.inl rfl) 0 _
          have K5x6 := Lib.hid (show Blk X6 G5 _ _ by rw [hX]; exact K5x5.out.other _ _ _ (by first | exact NEG6K5.out | exact (NEG5K6.out).symm))
          have R1x6 := Lib.hid (hbs.keepsOwn R1x5.out (fun q hq e => row_ne_blk R1x5.out K6x5.out (by decide) (by rw [hq, e])))
          have R2x6 := Lib.hid (hbs.keepsOwn R2x5.out (fun q hq e => row_ne_blk R2x5.out K6x5.out (by decide) (by rw [hq, e])))
          clear hX hbs HB5 K5x5 R1x5 K6x5 R2x5
          refine hK.out _ _ ?_ (fun hH6 => ?_)
          · exact SH.out _ HB6.out
          clear hK K
          try clear hH5
          try simp only [Act.put, List.setIfInBounds_toArray, List.set_cons_zero, List.set_cons_succ]
          refine wpAnyH_done (by kernel_rfl) ?_ _
          go_wp2_with fail
          go_meet
          exact ⟨G5, G6, A1, c1, A2, c2, rfl, rfl, K5x6, K6x6, R1x6, R2x6, HB6⟩
      · go_simp
        obtain ⟨X2, hX⟩ : ∃ X, X = X1.alloc (.cells #[.slice none 0 0] 80) := ⟨_, rfl⟩
        obtain ⟨G6, hg⟩ : ∃ g, g = X1.heap.size := ⟨_, rfl⟩
        rw [← hX, ← hg]
        have hb : Below X1.heap.size X1 X2 := by rw [hX]; exact below_alloc _ _
        have K6x2 := Lib.hid (show Blk X2 G6 80 #[.slice none 0 0] by rw [hX, hg]; exact Blk.new _ _ _)
        have HLG6 := Lib.hid (show U.heap.size ≤ G6 by rw [hg]; exact HB1.out.size)
        have NEG6K5 := Lib.hid (show G5 ≠ G6 by have := K5x1.out.lt; omega)
        have HB2 := Lib.hid (HB1.out.trans (hb.mono HB1.out.size))
        have K5x2 := Lib.hid (K5x1.out.below hb)
        clear K5x1
        clear hX hg hb HB1
        refine hK.out _ _ ?_ (fun hH2 => ?_)
        · exact SH.out _ HB2.out
        clear hK K
        try clear hH1
        try simp only [Act.put, List.setIfInBounds_toArray, List.set_cons_zero, List.set_cons_succ]
        refine wpAnyH_ready (rs := [4]) (by kernel_rfl) (by simp) ?_
        refine (AllReadyH.cons (o := Oper.mk (some 11) (Op.call (Call.mk (Callee.value (Operand.func 39)) #[Operand.tmp 8, Operand.tmp 10] #[3, 29])) 80 "group.go:49" #[Edge.mk 1 Ground.data, Edge.mk 3 Ground.data] none) rfl (fun K hK => ?_) AllReadyH.nil)
        go_simp
        go_at_call 39
        (with_reducible refine (C1.out _ HB2.out).mono ?_)
        rintro e9 X3 ⟨v9, rfl, ho, hb⟩
        obtain ⟨A1, c1, rfl, _, _⟩ := own_slice ho
        have HB3 := Lib.hid (HB2.out.trans (hb.mono HB2.out.size))
        have R1x3 := Lib.hid (own_mono ho HB2.out.size)
        have K5x3 := Lib.hid (K5x2.out.below hb)
        clear K5x2
        have K6x3 := Lib.hid (K6x2.out.below hb)
        clear K6x2
        clear ho hb HB2
        go_wp2_with fail
        refine hK.out _ _ ?_ (fun hH3 => ?_)
        · exact SH.out _ HB3.out
        clear hK K
        try clear hH2
        try simp only [Act.put, List.setIfInBounds_toArray, List.set_cons_zero, List.set_cons_succ]
        refine wpAnyH_ready (rs := [9]) (by kernel_rfl) (by simp) ?_
        refine (AllReadyH.cons (o := Oper.mk (some 16) (Op.call (Call.mk (Callee.value (Operand.func 39)) #[Operand.tmp 13, Operand.tmp 15] #[3, 29])) 80 "group.go:49" #[Edge.mk 6 Ground.data, Edge.mk 8 Ground.data, Edge.mk 4 Ground.chain] none) rfl (fun K hK => ?_) AllReadyH.nil)
        go_simp
        go_at_call 39
        (with_reducible refine (C2.out _ HB3.out).mono ?_)
        rintro e9 X4 ⟨v9, rfl, ho, hb⟩
        obtain ⟨A2, c2, rfl, _, _⟩ := own_slice ho
        have HB4 := Lib.hid (HB3.out.trans (hb.mono HB3.out.size))
        have R2x4 := Lib.hid (own_mono ho HB3.out.size)
        have K5x4 := Lib.hid (K5x3.out.below hb)
        clear K5x3
        have K6x4 := Lib.hid (K6x3.out.below hb)
        clear K6x3
        have R1x4 := Lib.hid (own_below R1x3.out hb)
        clear R1x3
        clear ho hb HB3
        go_wp2_with fail
        refine hK.out _ _ ?_ (fun hH4 => ?_)
        · exact SH.out _ HB4.out
        clear hK K
        try clear hH3
        try simp only [Act.put, List.setIfInBounds_toArray, List.set_cons_zero, List.set_cons_succ]
        refine wpAnyH_ready (rs := [12]) (by kernel_rfl) (by simp) ?_
        refine (AllReadyH.cons (o := Oper.mk none (Op.store 80 (Operand.tmp 5) (Operand.tmp 11)) 0 "group.go:49" #[Edge.mk 10 Ground.data, Edge.mk 4 Ground.data, Edge.mk 9 Ground.chain, Edge.mk 0 Ground.phase, Edge.mk 1 Ground.phase, Edge.mk 2 Ground.phase, Edge.mk 3 Ground.phase, Edge.mk 4 Ground.phase, Edge.mk 5 (Ground.textOnly Departure.lateStores), Edge.mk 6 (Ground.textOnly Departure.lateStoresUnsure), Edge.mk 7 (Ground.textOnly Departure.lateStores), Edge.mk 8 (Ground.textOnly Departure.lateStores), Edge.mk 9 (Ground.textOnly Departure.lateStoresUnsure), Edge.mk 10 Ground.phase, Edge.mk 11 Ground.phase] none) rfl (fun K hK => ?_) AllReadyH.nil)
        have e0 := K5x4.out.cell 0 (v := .slice none 0 0) rfl
        have p0 := K5x4.out.frozen 0
        go_simp
        obtain ⟨X5, hX⟩ : ∃ X, X = X4.setCell ⟨G5, 0, none⟩ (.slice A1 n c1) := ⟨_, rfl⟩
        rw [← hX]
        clear e0 p0
        have HB5 := Lib.hid (show Below U.heap.size U X5 by rw [hX]; exact HB4.out.setCell (p := ⟨G5, 0, none⟩) HLG5.out _)
        have K5x5 := Lib.hid (show Blk X5 G5 80 #[.slice A1 n c1] by rw [hX]; exact K5x4.out.set 0 _)
        have hbs : Beside (fun b => b = G5) X4 X5 := by rw [hX]; exact (Beside.refl (fun b => b = G5) _).set (.inl rfl) 0 _
        have K6x5 := Lib.hid (show Blk X5 G6 _ _ by rw [hX]; exact K6x4.out.other _ _ _ (by first | exact NEG5K6.out | exact (NEG6K5.out).symm))
        have R1x5 := Lib.hid (hbs.keepsOwn R1x4.out (fun q hq e => row_ne_blk R1x4.out K5x4.out (by decide) (by rw [hq, e])))
        have R2x5 := Lib.hid (hbs.keepsOwn R2x4.out (fun q hq e => row_ne_blk R2x4.out K5x4.out (by decide) (by rw [hq, e])))
        clear hX hbs HB4 K5x4 K6x4 R1x4 R2x4
        refine hK.out _ _ ?_ (fun hH5 => ?_)
        · exact SH.out _ HB5.out
        clear hK K
        try clear hH4
        try simp only [Act.put, List.setIfInBounds_toArray, List.set_cons_zero, List.set_cons_succ]
        refine wpAnyH_ready (rs := [13]) (by kernel_rfl) (by simp) ?_
        refine (AllReadyH.cons (o := Oper.mk none (Op.store 80 (Operand.tmp 6) (Operand.tmp 16)) 0 "group.go:49" #[Edge.mk 11 Ground.data, Edge.mk 9 Ground.data, Edge.mk 12 Ground.chain, Edge.mk 0 Ground.phase, Edge.mk 1 Ground.phase, Edge.mk 2 Ground.phase, Edge.mk 3 Ground.phase, Edge.mk 4 Ground.phase, Edge.mk 5 Ground.phase, Edge.mk 6 Ground.phase, Edge.mk 7 Ground.phase, Edge.mk 8 Ground.phase, Edge.mk 9 Ground.phase, Edge.mk 10 Ground.phase, Edge.mk 11 Ground.phase, Edge.mk 12 Ground.phase] none) rfl (fun K hK => ?_) AllReadyH.nil)
        have e0 := K6x5.out.cell 0 (v := .slice none 0 0) rfl
        have p0 := K6x5.out.frozen 0
        go_simp
        obtain ⟨X6, hX⟩ : ∃ X, X = X5.setCell ⟨G6, 0, none⟩ (.slice A2 n c2) := ⟨_, rfl⟩
        rw [← hX]
        clear e0 p0
        have HB6 := Lib.hid (show Below U.heap.size U X6 by rw [hX]; exact HB5.out.setCell (p := ⟨G6, 0, none⟩) HLG6.out _)
        have K6x6 := Lib.hid (show Blk X6 G6 80 #[.slice A2 n c2] by rw [hX]; exact K6x5.out.set 0 _)
        have hbs : Beside (fun b => b = G6) X5 X6 := by rw [hX]; exact (Beside.refl (fun b => b = G6) _).set (.inl rfl) 0 _
        have K5x6 := Lib.hid (show Blk X6 G5 _ _ by rw [hX]; exact K5x5.out.other _ _ _ (by first | exact NEG6K5.out | exact (NEG5K6.out).symm))
        have R1x6 := Lib.hid (hbs.keepsOwn R1x5.out (fun q hq e => row_ne_blk R1x5.out K6x5.out (by decide) (by rw [hq, e])))
        have R2x6 := Lib.hid (hbs.keepsOwn R2x5.out (fun q hq e => row_ne_blk R2x5.out K6x5.out (by decide) (by rw [hq, e])))
        clear hX hbs HB5 K5x5 K6x5 R1x5 R2x5
        refine hK.out _ _ ?_ (fun hH6 => ?_)
        · exact SH.out _ HB6.out
        clear hK K
        try clear hH5
        try simp only [Act.put, List.setIfInBounds_toArray, List.set_cons_zero, List.set_cons_succ]
        refine wpAnyH_done (by kernel_rfl) ?_ _
        go_wp2_with fail
        go_meet
        exact ⟨G5, G6, A1, c1, A2, c2, rfl, rfl, K5x6, K6x6, R1x6, R2x6, HB6⟩
    · go_simp
      obtain ⟨X1, hX⟩ : ∃ X, X = X0.alloc (.cells #[.slice none 0 0] 80) := ⟨_, rfl⟩
      obtain ⟨G6, hg⟩ : ∃ g, g = X0.heap.size := ⟨_, rfl⟩
      rw [← hX, ← hg]
      have hb : Below X0.heap.size X0 X1 := by rw [hX]; exact below_alloc _ _
      have K6x1 := Lib.hid (show Blk X1 G6 80 #[.slice none 0 0] by rw [hX, hg]; exact Blk.new _ _ _)
      have HLG6 := Lib.hid (show U.heap.size ≤ G6 by rw [hg]; exact HB0.out.size)
      have HB1 := Lib.hid (HB0.out.trans (hb.mono HB0.out.size))
      clear hX hg hb HB0
      refine hK.out _ _ ?_ (fun hH1 => ?_)
      · exact SH.out _ HB1.out
      clear hK K
      try clear hH0
      try simp only [Act.put, List.setIfInBounds_toArray, List.set_cons_zero, List.set_cons_succ]
      refine wpAnyH_ready (rs := [4, 10]) (by kernel_rfl) (by simp) ?_
      refine (AllReadyH.cons (o := Oper.mk (some 11) (Op.call (Call.mk (Callee.value (Operand.func 39)) #[Operand.tmp 8, Operand.tmp 10] #[3, 29])) 80 "group.go:49" #[Edge.mk 1 Ground.data, Edge.mk 3 Ground.data] none) rfl (fun K hK => ?_) (AllReadyH.cons (o := Oper.mk (some 5) (Op.alloc 80) 0 "group.go:49" #[] none) rfl (fun K hK => ?_) AllReadyH.nil))
      · go_simp
        go_at_call 39
        (with_reducible refine (C1.out _ HB1.out).mono ?_)
        rintro e9 X2 ⟨v9, rfl, ho, hb⟩
        obtain ⟨A1, c1, rfl, _, _⟩ := own_slice ho
        have HB2 := Lib.hid (HB1.out.trans (hb.mono HB1.out.size))
        have R1x2 := Lib.hid (own_mono ho HB1.out.size)
        have K6x2 := Lib.hid (K6x1.out.below hb)
        clear K6x1
        clear ho hb HB1
        go_wp2_with fail
        refine hK.out _ _ ?_ (fun hH2 => ?_)
        · exact SH.out _ HB2.out
        clear hK K
        try clear hH1
        try simp only [Act.put, List.setIfInBounds_toArray, List.set_cons_zero, List.set_cons_succ]
        refine wpAnyH_ready (rs := [9, 10]) (by kernel_rfl) (by simp) ?_
        refine (AllReadyH.cons (o := Oper.mk (some 16) (Op.call (Call.mk (Callee.value (Operand.func 39)) #[Operand.tmp 13, Operand.tmp 15] #[3, 29])) 80 "group.go:49" #[Edge.mk 6 Ground.data, Edge.mk 8 Ground.data, Edge.mk 4 Ground.chain] none) rfl (fun K hK => ?_) (AllReadyH.cons (o := Oper.mk (some 5) (Op.alloc 80) 0 "group.go:49" #[] none) rfl (fun K hK => ?_) AllReadyH.nil))
        · go_simp
          go_at_call 39
          (with_reducible refine (C2.out _ HB2.out).mono ?_)
          rintro e9 X3 ⟨v9, rfl, ho, hb⟩
          obtain ⟨A2, c2, rfl, _, _⟩ := own_slice ho
          have HB3 := Lib.hid (HB2.out.trans (hb.mono HB2.out.size))
          have R2x3 := Lib.hid (own_mono ho HB2.out.size)
          have K6x3 := Lib.hid (K6x2.out.below hb)
          clear K6x2
          have R1x3 := Lib.hid (own_below R1x2.out hb)
          clear R1x2
          clear ho hb HB2
          go_wp2_with fail
          refine hK.out _ _ ?_ (fun hH3 => ?_)
          · exact SH.out _ HB3.out
          clear hK K
          try clear hH2
          try simp only [Act.put, List.setIfInBounds_toArray, List.set_cons_zero, List.set_cons_succ]
          refine wpAnyH_ready (rs := [10]) (by kernel_rfl) (by simp) ?_
          refine (AllReadyH.cons (o := Oper.mk (some 5) (Op.alloc 80) 0 "group.go:49" #[] none) rfl (fun K hK => ?_) AllReadyH.nil)
          go_simp
          obtain ⟨X4, hX⟩ : ∃ X, X = X3.alloc (.cells #[.slice none 0 0] 80) := ⟨_, rfl⟩
          obtain ⟨G5, hg⟩ : ∃ g, g = X3.heap.size := ⟨_, rfl⟩
          rw [← hX, ← hg]
          have hb : Below X3.heap.size X3 X4 := by rw [hX]; exact below_alloc _ _
          have K5x4 := Lib.hid (show Blk X4 G5 80 #[.slice none 0 0] by rw [hX, hg]; exact Blk.new _ _ _)
          have HLG5 := Lib.hid (show U.heap.size ≤ G5 by rw [hg]; exact HB3.out.size)
          have NEG5K6 := Lib.hid (show G6 ≠ G5 by have := K6x3.out.lt; omega)
          have HB4 := Lib.hid (HB3.out.trans (hb.mono HB3.out.size))
          have K6x4 := Lib.hid (K6x3.out.below hb)
          clear K6x3
          have R1x4 := Lib.hid (own_below R1x3.out hb)
          clear R1x3
          have R2x4 := Lib.hid (own_below R2x3.out hb)
          clear R2x3
          clear hX hg hb HB3
          refine hK.out _ _ ?_ (fun hH4 => ?_)
          · exact SH.out _ HB4.out
          clear hK K
          try clear hH3
          try simp only [Act.put, List.setIfInBounds_toArray, List.set_cons_zero, List.set_cons_succ]
          refine wpAnyH_ready (rs := [12]) (by kernel_rfl) (by simp) ?_
          refine (AllReadyH.cons (o := Oper.mk none (Op.store 80 (Operand.tmp 5) (Operand.tmp 11)) 0 "group.go:49" #[Edge.mk 10 Ground.data, Edge.mk 4 Ground.data, Edge.mk 9 Ground.chain, Edge.mk 0 Ground.phase, Edge.mk 1 Ground.phase, Edge.mk 2 Ground.phase, Edge.mk 3 Ground.phase, Edge.mk 4 Ground.phase, Edge.mk 5 (Ground.textOnly Departure.lateStores), Edge.mk 6 (Ground.textOnly Departure.lateStoresUnsure), Edge.mk 7 (Ground.textOnly Departure.lateStores), Edge.mk 8 (Ground.textOnly Departure.lateStores), Edge.mk 9 (Ground.textOnly Departure.lateStoresUnsure), Edge.mk 10 Ground.phase, Edge.mk 11 Ground.phase] none) rfl (fun K hK => ?_) AllReadyH.nil)
          have e0 := K5x4.out.cell 0 (v := .slice none 0 0) rfl
          have p0 := K5x4.out.frozen 0
          go_simp
          obtain ⟨X5, hX⟩ : ∃ X, X = X4.setCell ⟨G5, 0, none⟩ (.slice A1 n c1) := ⟨_, rfl⟩
          rw [← hX]
          clear e0 p0
          have HB5 := Lib.hid (show Below U.heap.size U X5 by rw [hX]; exact HB4.out.setCell (p := ⟨G5, 0, none⟩) HLG5.out _)
          have K5x5 := Lib.hid (show Blk X5 G5 80 #[.slice A1 n c1] by rw [hX]; exact K5x4.out.set 0 _)
          have hbs : Beside (fun b => b = G5) X4 X5 := by rw [hX]; exact (Beside.refl (fun b => b = G5) _).set (.inl rfl) 0 _
          have K6x5 := Lib.hid (show Blk X5 G6 _ _ by rw [hX]; exact K6x4.out.other _ _ _ (by first | exact NEG5K6.out | exact (NEG6K5.out).symm))
          have R1x5 := Lib.hid (hbs.keepsOwn R1x4.out (fun q hq e => row_ne_blk R1x4.out K5x4.out (by decide) (by rw [hq, e])))
          have R2x5 := Lib.hid (hbs.keepsOwn R2x4.out (fun q hq e => row_ne_blk R2x4.out K5x4.out (by decide) (by rw [hq, e])))
          clear hX hbs HB4 K6x4 R1x4 R2x4 K5x4
          refine hK.out _ _ ?_ (fun hH5 => ?_)
          · exact SH.out _ HB5.out
          clear hK K
          try clear hH4
          try simp only [Act.put, List.setIfInBounds_toArray, List.set_cons_zero, List.set_cons_succ]
          refine wpAnyH_ready (rs := [13]) (by kernel_rfl) (by simp) ?_
          refine (AllReadyH.cons (o := Oper.mk none (Op.store 80 (Operand.tmp 6) (Operand.tmp 16)) 0 "group.go:49" #[Edge.mk 11 Ground.data, Edge.mk 9 Ground.data, Edge.mk 12 Ground.chain, Edge.mk 0 Ground.phase, Edge.mk 1 Ground.phase, Edge.mk 2 Ground.phase, Edge.mk 3 Ground.phase, Edge.mk 4 Ground.phase, Edge.mk 5 Ground.phase, Edge.mk 6 Ground.phase, Edge.mk 7 Ground.phase, Edge.mk 8 Ground.phase, Edge.mk 9 Ground.phase, Edge.mk 10 Ground.phase, Edge.mk 11 Ground.phase, Edge.mk 12 Ground.phase] none) rfl (fun K hK => ?_) AllReadyH.nil)
          have e0 := K6x5.out.cell 0 (v := .slice none 0 0) rfl
          have p0 := K6x5.out.frozen 0
          go_simp
          obtain ⟨X6, hX⟩ : ∃ X, X = X5.setCell ⟨G6, 0, none⟩ (.slice A2 n c2) := ⟨_, rfl⟩
          rw [← hX]
          clear e0 p0
          have HB6 := Lib.hid (show Below U.heap.size U X6 by rw [hX]; exact HB5.out.setCell (p := ⟨G6, 0, none⟩) HLG6.out _)
          have K6x6 := Lib.hid (show Blk X6 G6 80 #[.slice A2 n c2] by rw [hX]; exact K6x5.out.set 0 _)
          have hbs : Beside (fun b => b = G6) X5 X6 := by rw [hX]; exact (Beside.refl (fun b => b = G6) _).set (.inl rfl) 0 _
          have R1x6 := Lib.hid (hbs.keepsOwn R1x5.out (fun q hq e => row_ne_blk R1x5.out K6x5.out (by decide) (by rw [hq, e])))
          have R2x6 := Lib.hid (hbs.keepsOwn R2x5.out (fun q hq e => row_ne_blk R2x5.out K6x5.out (by decide) (by rw [hq, e])))
          have K5x6 := Lib.hid (show Blk X6 G5 _ _ by rw [hX]; exact K5x5.out.other _ _ _ (by first | exact NEG6K5.out | exact (NEG5K6.out).symm))
          clear hX hbs HB5 K6x5 R1x5 R2x5 K5x5
          refine hK.out _ _ ?_ (fun hH6 => ?_)
          · exact SH.out _ HB6.out
          clear hK K
          try clear hH5
          try simp only [Act.put, List.setIfInBounds_toArray, List.set_cons_zero, List.set_cons_succ]
          refine wpAnyH_done (by kernel_rfl) ?_ _
          go_wp2_with fail
          go_meet
          exact ⟨G5, G6, A1, c1, A2, c2, rfl, rfl, K5x6, K6x6, R1x6, R2x6, HB6⟩
        · go_simp
          obtain ⟨X3, hX⟩ : ∃ X, X = X2.alloc (.cells #[.slice none 0 0] 80) := ⟨_, rfl⟩
          obtain ⟨G5, hg⟩ : ∃ g, g = X2.heap.size := ⟨_, rfl⟩
          rw [← hX, ← hg]
          have hb : Below X2.heap.size X2 X3 := by rw [hX]; exact below_alloc _ _
          have K5x3 := Lib.hid (show Blk X3 G5 80 #[.slice none 0 0] by rw [hX, hg]; exact Blk.new _ _ _)
          have HLG5 := Lib.hid (show U.heap.size ≤ G5 by rw [hg]; exact HB2.out.size)
          have NEG5K6 := Lib.hid (show G6 ≠ G5 by have := K6x2.out.lt; omega)
          have HB3 := Lib.hid (HB2.out.trans (hb.mono HB2.out.size))
          have K6x3 := Lib.hid (K6x2.out.below hb)
          clear K6x2
          have R1x3 := Lib.hid (own_below R1x2.out hb)
          clear R1x2
          clear hX hg hb HB2
          refine hK.out _ _ ?_ (fun hH3 => ?_)
          · exact SH.out _ HB3.out
          clear hK K
          try clear hH2
          try simp only [Act.put, List.setIfInBounds_toArray, List.set_cons_zero, List.set_cons_succ]
          refine wpAnyH_ready (rs := [9]) (by kernel_rfl) (by simp) ?_
          refine (AllReadyH.cons (o := Oper.mk (some 16) (Op.call (Call.mk (Callee.value (Operand.func 39)) #[Operand.tmp 13, Operand.tmp 15] #[3, 29])) 80 "group.go:49" #[Edge.mk 6 Ground.data, Edge.mk 8 Ground.data, Edge.mk 4 Ground.chain] none) rfl (fun K hK => ?_) AllReadyH.nil)
          go_simp
          go_at_call 39
          (with_reducible refine (C2.out _ HB3.out).mono ?_)
          rintro e9 X4 ⟨v9, rfl, ho, hb⟩
          obtain ⟨A2, c2, rfl, _, _⟩ := own_slice ho
          have HB4 := Lib.hid (HB3.out.trans (hb.mono HB3.out.size))
          have R2x4 := Lib.hid (own_mono ho HB3.out.size)
          have K6x4 := Lib.hid (K6x3.out.below hb)
          clear K6x3
          have R1x4 := Lib.hid (own_below R1x3.out hb)
          clear R1x3
          have K5x4 := Lib.hid (K5x3.out.below hb)
          clear K5x3
          clear ho hb HB3
          go_wp2_with fail
          refine hK.out _ _ ?_ (fun hH4 => ?_)
          · exact SH.out _ HB4.out
          clear hK K
          try clear hH3
          try simp only [Act.put, List.setIfInBounds_toArray, List.set_cons_zero, List.set_cons_succ]
          refine wpAnyH_ready (rs := [12]) (by kernel_rfl) (by simp) ?_
          refine (AllReadyH.cons (o := Oper.mk none (Op.store 80 (Operand.tmp 5) (Operand.tmp 11)) 0 "group.go:49" #[Edge.mk 10 Ground.data, Edge.mk 4 Ground.data, Edge.mk 9 Ground.chain, Edge.mk 0 Ground.phase, Edge.mk 1 Ground.phase, Edge.mk 2 Ground.phase, Edge.mk 3 Ground.phase, Edge.mk 4 Ground.phase, Edge.mk 5 (Ground.textOnly Departure.lateStores), Edge.mk 6 (Ground.textOnly Departure.lateStoresUnsure), Edge.mk 7 (Ground.textOnly Departure.lateStores), Edge.mk 8 (Ground.textOnly Departure.lateStores), Edge.mk 9 (Ground.textOnly Departure.lateStoresUnsure), Edge.mk 10 Ground.phase, Edge.mk 11 Ground.phase] none) rfl (fun K hK => ?_) AllReadyH.nil)
          have e0 := K5x4.out.cell 0 (v := .slice none 0 0) rfl
          have p0 := K5x4.out.frozen 0
          go_simp
          obtain ⟨X5, hX⟩ : ∃ X, X = X4.setCell ⟨G5, 0, none⟩ (.slice A1 n c1) := ⟨_, rfl⟩
          rw [← hX]
          clear e0 p0
          have HB5 := Lib.hid (show Below U.heap.size U X5 by rw [hX]; exact HB4.out.setCell (p := ⟨G5, 0, none⟩) HLG5.out _)
          have K5x5 := Lib.hid (show Blk X5 G5 80 #[.slice A1 n c1] by rw [hX]; exact K5x4.out.set 0 _)
          have hbs : Beside (fun b => b = G5) X4 X5 := by rw [hX]; exact (Beside.refl (fun b => b = G5) _).set (.inl rfl) 0 _
          have K6x5 := Lib.hid (show Blk X5 G6 _ _ by rw [hX]; exact K6x4.out.other _ _ _ (by first | exact NEG5K6.out | exact (NEG6K5.out).symm))
          have R1x5 := Lib.hid (hbs.keepsOwn R1x4.out (fun q hq e => row_ne_blk R1x4.out K5x4.out (by decide) (by rw [hq, e])))
          have R2x5 := Lib.hid (hbs.keepsOwn R2x4.out (fun q hq e => row_ne_blk R2x4.out K5x4.out (by decide) (by rw [hq, e])))
          clear hX hbs HB4 K6x4 R1x4 K5x4 R2x4
          refine hK.out _ _ ?_ (fun hH5 => ?_)
          · exact SH.out _ HB5.out
          clear hK K
          try clear hH4
          try simp only [Act.put, List.setIfInBounds_toArray, List.set_cons_zero, List.set_cons_succ]
          refine wpAnyH_ready (rs := [13]) (by kernel_rfl) (by simp) ?_
          refine (AllReadyH.cons (o := Oper.mk none (Op.store 80 (Operand.tmp 6) (Operand.tmp 16)) 0 "group.go:49" #[Edge.mk 11 Ground.data, Edge.mk 9 Ground.data, Edge.mk 12 Ground.chain, Edge.mk 0 Ground.phase, Edge.mk 1 Ground.phase, Edge.mk 2 Ground.phase, Edge.mk 3 Ground.phase, Edge.mk 4 Ground.phase, Edge.mk 5 Ground.phase, Edge.mk 6 Ground.phase, Edge.mk 7 Ground.phase, Edge.mk 8 Ground.phase, Edge.mk 9 Ground.phase, Edge.mk 10 Ground.phase, Edge.mk 11 Ground.phase, Edge.mk 12 Ground.phase] none) rfl (fun K hK => ?_) AllReadyH.nil)
          have e0 := K6x5.out.cell 0 (v := .slice none 0 0) rfl
          have p0 := K6x5.out.frozen 0
          go_simp
          obtain ⟨X6, hX⟩ : ∃ X, X = X5.setCell ⟨G6, 0, none⟩ (.slice A2 n c2) := ⟨_, rfl⟩
          rw [← hX]
          clear e0 p0
          have HB6 := Lib.hid (show Below U.heap.size U X6 by rw [hX]; exact HB5.out.setCell (p := ⟨G6, 0, none⟩) HLG6.out _)
          have K6x6 := Lib.hid (show Blk X6 G6 80 #[.slice A2 n c2] by rw [hX]; exact K6x5.out.set 0 _)
          have hbs : Beside (fun b => b = G6) X5 X6 := by rw [hX]; exact (Beside.refl (fun b => b = G6) _).set (.inl rfl) 0 _
          have R1x6 := Lib.hid (hbs.keepsOwn R1x5.out (fun q hq e => row_ne_blk R1x5.out K6x5.out (by decide) (by rw [hq, e])))
          have K5x6 := Lib.hid (show Blk X6 G5 _ _ by rw [hX]; exact K5x5.out.other _ _ _ (by first | exact NEG6K5.out | exact (NEG5K6.out).symm))
          have R2x6 := Lib.hid (hbs.keepsOwn R2x5.out (fun q hq e => row_ne_blk R2x5.out K6x5.out (by decide) (by rw [hq, e])))
          clear hX hbs HB5 K6x5 R1x5 K5x5 R2x5
          refine hK.out _ _ ?_ (fun hH6 => ?_)
          · exact SH.out _ HB6.out
          clear hK K
          try clear hH5
          try simp only [Act.put, List.setIfInBounds_toArray, List.set_cons_zero, List.set_cons_succ]
          refine wpAnyH_done (by kernel_rfl) ?_ _
          go_wp2_with fail
          go_meet
          exact ⟨G5, G6, A1, c1, A2, c2, rfl, rfl, K5x6, K6x6, R1x6, R2x6, HB6⟩
      · go_simp
        obtain ⟨X2, hX⟩ : ∃ X, X = X1.alloc (.cells #[.slice none 0 0] 80) := ⟨_, rfl⟩
        obtain ⟨G5, hg⟩ : ∃ g, g = X1.heap.size := ⟨_, rfl⟩
        rw [← hX, ← hg]
        have hb : Below X1.heap.size X1 X2 := by rw [hX]; exact below_alloc _ _
        have K5x2 := Lib.hid (show Blk X2 G5 80 #[.slice none 0 0] by rw [hX, hg]; exact Blk.new _ _ _)
        have HLG5 := Lib.hid (show U.heap.size ≤ G5 by rw [hg]; exact HB1.out.size)
        have NEG5K6 := Lib.hid (show G6 ≠ G5 by have := K6x1.out.lt; omega)
        have HB2 := Lib.hid (HB1.out.trans (hb.mono HB1.out.size))
        have K6x2 := Lib.hid (K6x1.out.below hb)
        clear K6x1
        clear hX hg hb HB1
        refine hK.out _ _ ?_ (fun hH2 => ?_)
        · exact SH.out _ HB2.out
        clear hK K
        try clear hH1
        try simp only [Act.put, List.setIfInBounds_toArray, List.set_cons_zero, List.set_cons_succ]
        refine wpAnyH_ready (rs := [4]) (by kernel_rfl) (by simp) ?_
        refine (AllReadyH.cons (o := Oper.mk (some 11) (Op.call (Call.mk (Callee.value (Operand.func 39)) #[Operand.tmp 8, Operand.tmp 10] #[3, 29])) 80 "group.go:49" #[Edge.mk 1 Ground.data, Edge.mk 3 Ground.data] none) rfl (fun K hK => ?_) AllReadyH.nil)
        go_simp
        go_at_call 39
        (with_reducible refine (C1.out _ HB2.out).mono ?_)
        rintro e9 X3 ⟨v9, rfl, ho, hb⟩
        obtain ⟨A1, c1, rfl, _, _⟩ := own_slice ho
        have HB3 := Lib.hid (HB2.out.trans (hb.mono HB2.out.size))
        have R1x3 := Lib.hid (own_mono ho HB2.out.size)
        have K6x3 := Lib.hid (K6x2.out.below hb)
        clear K6x2
        have K5x3 := Lib.hid (K5x2.out.below hb)
        clear K5x2
        clear ho hb HB2
        go_wp2_with fail
        refine hK.out _ _ ?_ (fun hH3 => ?_)
        · exact SH.out _ HB3.out
        clear hK K
        try clear hH2
        try simp only [Act.put, List.setIfInBounds_toArray, List.set_cons_zero, List.set_cons_succ]
        refine wpAnyH_ready (rs := [9]) (by kernel_rfl) (by simp) ?_
        refine (AllReadyH.cons (o := Oper.mk (some 16) (Op.call (Call.mk (Callee.value (Operand.func 39)) #[Operand.tmp 13, Operand.tmp 15] #[3, 29])) 80 "group.go:49" #[Edge.mk 6 Ground.data, Edge.mk 8 Ground.data, Edge.mk 4 Ground.chain] none) rfl (fun K hK => ?_) AllReadyH.nil)
        go_simp
        go_at_call 39
        (with_reducible refine (C2.out _ HB3.out).mono ?_)
        rintro e9 X4 ⟨v9, rfl, ho, hb⟩
        obtain ⟨A2, c2, rfl, _, _⟩ := own_slice ho
        have HB4 := Lib.hid (HB3.out.trans (hb.mono HB3.out.size))
        have R2x4 := Lib.hid (own_mono ho HB3.out.size)
        have K6x4 := Lib.hid (K6x3.out.below hb)
        clear K6x3
        have K5x4 := Lib.hid (K5x3.out.below hb)
        clear K5x3
        have R1x4 := Lib.hid (own_below R1x3.out hb)
        clear R1x3
        clear ho hb HB3
        go_wp2_with fail
        refine hK.out _ _ ?_ (fun hH4 => ?_)
        · exact SH.out _ HB4.out
        clear hK K
        try clear hH3
        try simp only [Act.put, List.setIfInBounds_toArray, List.set_cons_zero, List.set_cons_succ]
        refine wpAnyH_ready (rs := [12]) (by kernel_rfl) (by simp) ?_
        refine (AllReadyH.cons (o := Oper.mk none (Op.store 80 (Operand.tmp 5) (Operand.tmp 11)) 0 "group.go:49" #[Edge.mk 10 Ground.data, Edge.mk 4 Ground.data, Edge.mk 9 Ground.chain, Edge.mk 0 Ground.phase, Edge.mk 1 Ground.phase, Edge.mk 2 Ground.phase, Edge.mk 3 Ground.phase, Edge.mk 4 Ground.phase, Edge.mk 5 (Ground.textOnly Departure.lateStores), Edge.mk 6 (Ground.textOnly Departure.lateStoresUnsure), Edge.mk 7 (Ground.textOnly Departure.lateStores), Edge.mk 8 (Ground.textOnly Departure.lateStores), Edge.mk 9 (Ground.textOnly Departure.lateStoresUnsure), Edge.mk 10 Ground.phase, Edge.mk 11 Ground.phase] none) rfl (fun K hK => ?_) AllReadyH.nil)
        have e0 := K5x4.out.cell 0 (v := .slice none 0 0) rfl
        have p0 := K5x4.out.frozen 0
        go_simp
        obtain ⟨X5, hX⟩ : ∃ X, X = X4.setCell ⟨G5, 0, none⟩ (.slice A1 n c1) := ⟨_, rfl⟩
        rw [← hX]
        clear e0 p0
        have HB5 := Lib.hid (show Below U.heap.size U X5 by rw [hX]; exact HB4.out.setCell (p := ⟨G5, 0, none⟩) HLG5.out _)
        have K5x5 := Lib.hid (show Blk X5 G5 80 #[.slice A1 n c1] by rw [hX]; exact K5x4.out.set 0 _)
        have hbs : Beside (fun b => b = G5) X4 X5 := by rw [hX]; exact (Beside.refl (fun b => b = G5) _).set (.inl rfl) 0 _
        have K6x5 := Lib.hid (show Blk X5 G6 _ _ by rw [hX]; exact K6x4.out.other _ _ _ (by first | exact NEG5K6.out | exact (NEG6K5.out).symm))
        have R1x5 := Lib.hid (hbs.keepsOwn R1x4.out (fun q hq e => row_ne_blk R1x4.out K5x4.out (by decide) (by rw [hq, e])))
        have R2x5 := Lib.hid (hbs.keepsOwn R2x4.out (fun q hq e => row_ne_blk R2x4.out K5x4.out (by decide) (by rw [hq, e])))
        clear hX hbs HB4 K6x4 K5x4 R1x4 R2x4
        refine hK.out _ _ ?_ (fun hH5 => ?_)
        · exact SH.out _ HB5.out
        clear hK K
        try clear hH4
        try simp only [Act.put, List.setIfInBounds_toArray, List.set_cons_zero, List.set_cons_succ]
        refine wpAnyH_ready (rs := [13]) (by kernel_rfl) (by simp) ?_
        refine (AllReadyH.cons (o := Oper.mk none (Op.store 80 (Operand.tmp 6) (Operand.tmp 16)) 0 "group.go:49" #[Edge.mk 11 Ground.data, Edge.mk 9 Ground.data, Edge.mk 12 Ground.chain, Edge.mk 0 Ground.phase, Edge.mk 1 Ground.phase, Edge.mk 2 Ground.phase, Edge.mk 3 Ground.phase, Edge.mk 4 Ground.phase, Edge.mk 5 Ground.phase, Edge.mk 6 Ground.phase, Edge.mk 7 Ground.phase, Edge.mk 8 Ground.phase, Edge.mk 9 Ground.phase, Edge.mk 10 Ground.phase, Edge.mk 11 Ground.phase, Edge.mk 12 Ground.phase] none) rfl (fun K hK => ?_) AllReadyH.nil)
        have e0 := K6x5.out.cell 0 (v := .slice none 0 0) rfl
        have p0 := K6x5.out.frozen 0
        go_simp
        obtain ⟨X6, hX⟩ : ∃ X, X = X5.setCell ⟨G6, 0, none⟩ (.slice A2 n c2) := ⟨_, rfl⟩
        rw [← hX]
        clear e0 p0
        have HB6 := Lib.hid (show Below U.heap.size U X6 by rw [hX]; exact HB5.out.setCell (p := ⟨G6, 0, none⟩) HLG6.out _)
        have K6x6 := Lib.hid (show Blk X6 G6 80 #[.slice A2 n c2] by rw [hX]; exact K6x5.out.set 0 _)
        have hbs : Beside (fun b => b = G6) X5 X6 := by rw [hX]; exact (Beside.refl (fun b => b = G6) _).set (.inl rfl) 0 _
        have K5x6 := Lib.hid (show Blk X6 G5 _ _ by rw [hX]; exact K5x5.out.other _ _ _ (by first | exact NEG6K5.out | exact (NEG5K6.out).symm))
        have R1x6 := Lib.hid (hbs.keepsOwn R1x5.out (fun q hq e => row_ne_blk R1x5.out K6x5.out (by decide) (by rw [hq, e])))
        have R2x6 := Lib.hid (hbs.keepsOwn R2x5.out (fun q hq e => row_ne_blk R2x5.out K6x5.out (by decide) (by rw [hq, e])))
        clear hX hbs HB5 K6x5 K5x5 R1x5 R2x5
        refine hK.out _ _ ?_ (fun hH6 => ?_)
        · exact SH.out _ HB6.out
        clear hK K
        try clear hH5
        try simp only [Act.put, List.setIfInBounds_toArray, List.set_cons_zero, List.set_cons_succ]
        refine wpAnyH_done (by kernel_rfl) ?_ _
        go_wp2_with fail
        go_meet
        exact ⟨G5, G6, A1, c1, A2, c2, rfl, rfl, K5x6, K6x6, R1x6, R2x6, HB6⟩
  case' rest =>
    obtain ⟨G5, G6, A1, c1, A2, c2, rfl, rfl, K5, K6, R1, R2, HBx⟩ := hcut
  rename World => wq
  have q0 := (HK1.out.below HBx.out).cell 0 (v := .slice A n c) rfl
  have hwq : w.heap.size ≤ wq.heap.size := Nat.le_trans HB.out.size HBx.out.size
  go_wp2_with fail
  refine (where_ghosts n G5 (b0 + 1) G6 (ghostQ T) _ (by omega) (fun W i hi hb => by
    have hil : i < L.length := by have := HN.out; omega
    refine (ghosts1_any i G5 (b0 + 1) G6 A n c L A1 n c1 (mks n (nI (leaves L T))) A2 n c2 (mks n T) W hi HN.out hi (by rw [mks_len]) hi (by rw [mks_len]) ((K5.out.below hb).cell 0 rfl) (((HK1.out.below HBx.out).below hb).cell 0 rfl) ((K6.out.below hb).cell 0 rfl) ((At.own R1.out).below hb) ((HA.out.below HBx.out).below hb) ((At.own R2.out).below hb)).mono ?_
    rintro e9 W' ⟨rfl, h9⟩
    refine ⟨?_, h9⟩
    rw [mks_at n _ hi, mks_at n _ hi, ghosts_is L T hil])).mono ?_
  rintro e9 w5 ⟨v5, rfl, ho5, hb5⟩
  obtain ⟨A5, c5, rfl, hc5, hm5⟩ := own_slice ho5
  have HO5 := Lib.hid ho5
  have HB5 := Lib.hid (HBx.out.trans (hb5.mono HBx.out.size))
  clear ho5 hb5 q0
  have HLV : Hid (ghosts L T = wh n (ghostQ T)) := by show _ = _; unfold ghosts; rw [← HN.out]
  go_wp2
  go_ret
  exact ⟨.slice A5 (wh n (ghostQ T)).length c5, rfl, by rw [HLV.out]; exact own_mono HO5.out hwq, HB.out.trans (HB5.out.mono HB.out.size)⟩
end Go.Proofs.Ytfapghekakdpgaa
