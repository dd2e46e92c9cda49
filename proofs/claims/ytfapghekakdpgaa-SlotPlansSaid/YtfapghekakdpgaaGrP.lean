/- GroupPlans: who leaves, who is taken, who is new, comes back, stays, and is a ghost. -/
import Derived.Test.YtfapghekakdpgaaGrN
import Derived.OrdersHeld
import Derived.OpenShut
namespace Go.Proofs.Ytfapghekakdpgaa
open Go.RowKit Gr
open M (cutS few few_len)
attribute [-go_sem] Builtin.append_
set_option linter.unusedVariables false
theorem kept_of {W W' : World} {base : Nat} {e : TypeId} {size n : Nat} {u : Value} {ys : List Value} {row : Option Nat} (k : W.ownsRow base e size u n ys) (hg : W.grownBy W' row) (hne : ∀ g, row = some g → u.ownBlock ≠ some g) : W'.ownsRow base e size u n ys :=
  k.kept hg (by
    cases e : u.ownBlock with
    | none => exact .inl rfl
    | some g => exact .inr (fun e2 => hne g e2.symm e))
theorem apart_of {W : World} {base : Nat} {e : TypeId} {size n : Nat} {v v' u : Value} {ys : List Value} (k : W.ownsRow base e size u n ys) (hne : ∀ g, v.ownBlock = some g → u.ownBlock ≠ some g) (hat : v'.ownBlock = v.ownBlock ∨ v'.ownBlock = some W.heap.size) : ∀ g, v'.ownBlock = some g → u.ownBlock ≠ some g := by
  intro g h1 h2
  rcases hat with h | h
  · exact hne g (h ▸ h1) h2
  · rw [h] at h1
    injection h1 with h1
    have := (k.lt g h2).2
    omega
def Ap (a b : Value) : Prop := ∀ x, a.ownBlock = some x → b.ownBlock ≠ some x
theorem Ap.symm {a b : Value} (h : Ap a b) : Ap b a := fun x h1 h2 => h x h2 h1
/-- three growing rows of places -/
structure R3 (W : World) (g : Nat) (v u a : Value) (lv lu la : List Nat) : Prop where
  ov : W.ownsRow g 3 1 v lv.length (nv lv)
  ou : W.ownsRow g 3 1 u lu.length (nv lu)
  oa : W.ownsRow g 3 1 a la.length (nv la)
  vu : Ap v u
  va : Ap v a
  ua : Ap u a
theorem nv_snoc (l : List Nat) (x : Nat) : nv (l ++ [x]) = nv l ++ [.int .i64 (x : Int)] := by rw [nv_app]; rfl
theorem R3.pushV {W W' : World} {g : Nat} {v u a v' : Value} {lv lu la : List Nat} {x : Nat} {o : Obj} (h : R3 W g v u a lv lu la) (hown : W'.ownsRow g 3 1 v' (lv.length + 1) (nv lv ++ [.int .i64 (x : Int)])) (hg : (W.alloc o).grownBy W' v.ownBlock)
    (hat : v'.ownBlock = v.ownBlock ∨ v'.ownBlock = some (W.alloc o).heap.size) : R3 W' g v' u a (lv ++ [x]) lu la :=
  ⟨by rw [nv_snoc, List.length_append]; exact hown, kept_of (h.ou.alloc o) hg h.vu, kept_of (h.oa.alloc o) hg h.va, apart_of (h.ou.alloc o) h.vu hat, apart_of (h.oa.alloc o) h.va hat, h.ua⟩
theorem R3.pushU {W W' : World} {g : Nat} {v u a u' : Value} {lv lu la : List Nat} {x : Nat} {o : Obj} (h : R3 W g v u a lv lu la) (hown : W'.ownsRow g 3 1 u' (lu.length + 1) (nv lu ++ [.int .i64 (x : Int)])) (hg : (W.alloc o).grownBy W' u.ownBlock)
    (hat : u'.ownBlock = u.ownBlock ∨ u'.ownBlock = some (W.alloc o).heap.size) : R3 W' g v u' a lv (lu ++ [x]) la :=
  ⟨kept_of (h.ov.alloc o) hg h.vu.symm, by rw [nv_snoc, List.length_append]; exact hown, kept_of (h.oa.alloc o) hg h.ua, Ap.symm (apart_of (h.ov.alloc o) h.vu.symm hat), h.va, apart_of (h.oa.alloc o) h.ua hat⟩
theorem R3.pushA {W W' : World} {g : Nat} {v u a a' : Value} {lv lu la : List Nat} {x : Nat} {o : Obj} (h : R3 W g v u a lv lu la) (hown : W'.ownsRow g 3 1 a' (la.length + 1) (nv la ++ [.int .i64 (x : Int)])) (hg : (W.alloc o).grownBy W' a.ownBlock)
    (hat : a'.ownBlock = a.ownBlock ∨ a'.ownBlock = some (W.alloc o).heap.size) : R3 W' g v u a' lv lu (la ++ [x]) :=
  ⟨kept_of (h.ov.alloc o) hg h.va.symm, kept_of (h.ou.alloc o) hg h.ua.symm, by rw [nv_snoc, List.length_append]; exact hown, h.vu, Ap.symm (apart_of (h.ov.alloc o) h.va.symm hat), Ap.symm (apart_of (h.ou.alloc o) h.ua.symm hat)⟩
theorem numbersT (A B : Option Addr) (n c m d : Nat) (xs : List Int) (w : World) (hn : n = xs.length) (hm : m = xs.length) (hb : n ≤ 100000) (ha : At w A (iv xs)) (hb' : At w B (iv xs)) :
    Calls Try.prog 16 #[.slice A n c, .slice B m d] w fun e w' => e = .returned (.bool true) ∧ Below w.heap.size w w' := by
  refine (numbersI_any A B n c m d xs xs w hn hm hb (by omega) ha hb').mono ?_
  rintro e w' ⟨rfl, q, rfl⟩
  exact ⟨by rw [decide_eq_true rfl], drewN_below (Below.refl _ _) q⟩
theorem numbersV (A B : Option Addr) (n c m d : Nat) (xs : List Nat) (w : World) (hn : n = xs.length) (hm : m = xs.length) (hb : n ≤ 100000) (ha : At w A (nv xs)) (hb' : At w B (nv xs)) :
    Calls Try.prog 16 #[.slice A n c, .slice B m d] w fun e w' => e = .returned (.bool true) ∧ Below w.heap.size w w' := by
  refine (numbers_any A B n c m d xs xs w hn hm hb (by omega) ha hb').mono ?_
  rintro e w' ⟨rfl, q, rfl⟩
  exact ⟨by rw [decide_eq_true rfl], drewN_below (Below.refl _ _) q⟩
theorem at_in {W w : World} {A : Option Addr} {xs : List Value} {g : Nat} (h : At W A xs) (hb : Below g W w) (hg : W.heap.size ≤ g) : At w A xs := h.below (hb.mono hg)
theorem few_ok (l : List ByteArray) (n : Nat) (h : ∀ k ∈ l, OkS k) : ∀ k ∈ few l n, OkS k := by
  intro k hk
  unfold few at hk
  rw [List.mem_map] at hk
  obtain ⟨x, hx, rfl⟩ := hk
  have h2 := h x (List.mem_of_mem_take hx)
  unfold OkS cutS maxLen at *
  split
  · simp; omega
  · exact h2
set_option maxHeartbeats 16000000 in
set_option maxRecDepth 100000 in
theorem groupPlans_any (A B : Option Addr) (n c m d : Nat) (L : List Gk) (K : List ByteArray) (w : World) (hn : n = L.length) (hm : m = K.length) (hb : n ≤ maxLen) (hb2 : m ≤ maxLen) (ha : At w A (gcs L)) (ha2 : At w B (sv K)) (ho : ∀ k ∈ L, OkS k.1) (hw : ∀ k ∈ K, OkS k) :
    Calls Try.prog 3 #[.slice A n c, .slice B m d] w fun e w' => e = .returned (.bool true) ∧ Below w.heap.size w w' := by
  have C1 := Lib.hid (fun W (hW : Below w.heap.size w W) => own_any A n c 20 L W hn hb (by omega) (ha.below hW))
  have C2 := Lib.hid (fun W (hW : Below w.heap.size w W) => few_any B m d 20 K W hm hb2 (by omega) (by omega) (ha2.below hW))
  have OX := Lib.hid (ownK_ok L 20 ho)
  have OY := Lib.hid (few_ok K 20 hw)
  have LX : Hid (min 20 n = (ownK L 20).length) := by show _ = _; rw [ownK_len, hn]
  have hx1 : min 20 n ≤ 20 := by omega
  have hy1 : (few K 20).length ≤ 20 := few_len K 20
  generalize ownK L 20 = X at *
  replace C2 : Hid (∀ W, Below w.heap.size w W → Calls Try.prog 13 #[.slice B m d, .int .i64 20] W fun e w' => ∃ v, e = .returned v ∧ w'.ownsRow W.heap.size 9 1 v (few K 20).length (sv (few K 20)) ∧ Below W.heap.size W w') := C2
  have LY : Hid ((few K 20).length = (few K 20).length) := rfl
  obtain ⟨Y, hY⟩ : ∃ Y, Y = few K 20 := ⟨_, rfl⟩
  rw [← hY] at C2 OY hy1 LY
  clear hY
  generalize min 20 n = N at *
  obtain ⟨M, hM⟩ : ∃ M, M = Y.length := ⟨_, rfl⟩
  rw [← hM] at C2 hy1
  have HM := Lib.hid hM
  obtain ⟨i0, hi, hz0, hz1, hz2⟩ := info_parts infoInt
  clear hn hm hb hb2 ha ha2 ho hw LY hM
  go_enter Try.func3, Try.ntmps3
  go_wp2_with fail
  refine (awake25_any _).mono ?_
  rintro e w1 ⟨rfl, hb1⟩
  have HB1 := Lib.hid hb1
  clear hb1
  go_wp2_with fail
  refine (C1.out _ HB1.out).mono ?_
  rintro e w2 ⟨v5, v6, rfl, ho5, ho6, hb2⟩
  obtain ⟨A5, c5, rfl, hc5, hm5⟩ := own_slice ho5
  obtain ⟨A6, c6, rfl, hc6, hm6⟩ := own_slice ho6
  have T5 := Lib.hid (At.own ho5)
  have T6 := Lib.hid (At.own ho6)
  have HB2 := Lib.hid (HB1.out.trans (hb2.mono HB1.out.size))
  clear ho5 ho6 hb2 C1
  go_wp2_with fail
  refine (C2.out _ HB2.out).mono ?_
  rintro e w3 ⟨v1, rfl, ho1, hb3⟩
  obtain ⟨A1, c1, rfl, hc1, hm1⟩ := own_slice ho1
  have N1 := Lib.hid (own_addr ho1)
  have U5 := Lib.hid (T5.out.below hb3)
  have U6 := Lib.hid (T6.out.below hb3)
  have U1 := Lib.hid (At.own ho1)
  have HB3 := Lib.hid (HB2.out.trans (hb3.mono HB2.out.size))
  clear ho1 hb3 T5 T6 C2
  have C3 := Lib.hid (of_any A5 N c5 X A1 M c1 Y w3 LX.out HM.out (by omega) (by omega) U5.out U1.out OX.out OY.out)
  have C4 := Lib.hid (fun W (hW : Below w3.heap.size w3 W) => rtake_any A6 N c6 X A1 M c1 Y W LX.out HM.out (by omega) (by omega) hc1 hm1 N1.out (U6.out.below hW) (U1.out.below hW))
  have CLx := Lib.hid (fun W (hW : Below w3.heap.size w3 W) => rleave_any A6 N c6 X A1 M c1 Y W LX.out HM.out (by omega) (by omega) hc1 hm1 N1.out (U6.out.below hW) (U1.out.below hW))
  have CHx := Lib.hid (fun W (hW : Below w3.heap.size w3 W) => rghosts_any A6 N c6 X A1 M c1 Y W LX.out HM.out (by omega) (by omega) hc1 hm1 N1.out (U6.out.below hW) (U1.out.below hW))
  have HTL : Hid (M = (tks X Y).length) := by show _ = _; rw [tks_len]; exact HM.out
  have HTR : Hid (∀ k, k < M → ats (tks X Y) k = -1 ∨ ∃ j : Nat, ats (tks X Y) k = (j : Int) ∧ j < N) := fun k hk => by
    have hky : k < Y.length := by have := HM.out; omega
    rw [tks_at X Y hky]
    rcases takeI_range X Y k with h | ⟨j, h1, h2, _⟩
    · exact .inl h
    · exact .inr ⟨j, h1, by have := LX.out; omega⟩
  have hlv : (leaves X (tks X Y)).length ≤ 20 := by
    have h1 := wh_le X.length (leaveQ X (tks X Y))
    have h2 := LX.out
    unfold leaves
    omega
  generalize tks X Y = T at *
  go_wp2_with fail
  refine C3.out.mono ?_
  rintro e w4 ⟨v7, v8, rfl, ho7, ho8, hb4⟩
  obtain ⟨A7, c7, rfl, _, _⟩ := own_slice ho7
  obtain ⟨A8, c8, rfl, _, _⟩ := own_slice ho8
  obtain ⟨W5, hW5⟩ : ∃ W, W = w4.alloc (.cells #[.slice A7 (leaves X T).length c7, .slice A8 M c8] 31) := ⟨_, rfl⟩
  obtain ⟨gp, hgp⟩ : ∃ g, g = w4.heap.size := ⟨_, rfl⟩
  have hb5 : Below w4.heap.size w4 W5 := by rw [hW5]; exact below_alloc w4 _
  have hb35 : Below w3.heap.size w3 W5 := hb4.trans (hb5.mono hb4.size)
  have KP := Lib.hid (show Blk W5 gp 31 #[.slice A7 (leaves X T).length c7, .slice A8 M c8] by rw [hW5, hgp]; exact Blk.new w4 _ _)
  have V7 := Lib.hid ((At.own ho7).below hb5)
  have V8 := Lib.hid ((At.own ho8).below hb5)
  have B35 := Lib.hid hb35
  have HW5 := Lib.hid hW5
  have HGP := Lib.hid hgp
  clear ho7 ho8 hb4 hb5 hb35 hW5 hgp C3
  go_upto_region 5 with fail
  rw [← HW5.out, ← HGP.out]
  go_wp2_with fail
  refine (C4.out _ B35.out).mono ?_
  rintro e w6 ⟨v9, rfl, ho9, hb6⟩
  obtain ⟨A9, c9, rfl, _, _⟩ := own_slice ho9
  have V9 := Lib.hid (At.own ho9)
  have V7' := Lib.hid (V7.out.below hb6)
  have V8' := Lib.hid (V8.out.below hb6)
  have KP' := Lib.hid (KP.out.below hb6)
  have B36 := Lib.hid (B35.out.trans (hb6.mono B35.out.size))
  obtain ⟨g, hg⟩ : ∃ g, g = w6.heap.size := ⟨_, rfl⟩
  obtain ⟨W6, hW6⟩ : ∃ W, W = w6 := ⟨_, rfl⟩
  obtain ⟨W7, hW7⟩ : ∃ W, W = ((w6.alloc (.cells #[] 3)).alloc (.cells #[] 3)).alloc (.cells #[] 3) := ⟨_, rfl⟩
  have hs1 : (w6.alloc (.cells #[] 3)).heap.size = g + 1 := by rw [size_alloc, hg]
  have hs2 : ((w6.alloc (.cells #[] 3)).alloc (.cells #[] 3)).heap.size = g + 2 := by rw [size_alloc, hs1]
  have RX : Hid (R3 W7 g (.slice (some ⟨g, 0, none⟩) 0 0) (.slice (some ⟨g + 1, 0, none⟩) 0 0) (.slice (some ⟨g + 2, 0, none⟩) 0 0) [] [] []) := by
    show R3 _ _ _ _ _ _ _ _
    rw [hW7]
    refine ⟨((own_made w6 g hg.symm (Nat.le_refl _)).alloc _).alloc _, (own_made _ (g + 1) hs1 (by omega)).alloc _, own_made _ (g + 2) hs2 (by omega), ?_, ?_, ?_⟩
    all_goals
      intro x h1 h2
      simp [Value.ownBlock] at h1 h2
      omega
  have BX : Hid (Below g W6 W7) := by
    show Below _ _ _
    rw [hW7, hg, hW6]
    exact ((below_alloc w6 _).alloc (by simp) _).alloc (by simp; omega) _
  have hgW : W6.heap.size = g := by rw [hW6, hg]
  have zX : g ≤ W7.heap.size := by rw [hW7, size_alloc, hs2]; omega
  rw [← hW6] at V9 V7' V8' KP' B36
  have HW7 : Hid (W7 = ((w6.alloc (.cells #[] 3)).alloc (.cells #[] 3)).alloc (.cells #[] 3)) := hW7
  have HG := Lib.hid hg
  clear ho9 hb6 hg hW6 hW7 hs1 hs2 V7 V8 KP B35 C4
  have HGW := Lib.hid hgW
  clear hgW
  go_upto_region 8 with fail
  rw [← HW7.out, ← HG.out]
  go_wp2_with fail
  go_loopw [9, 10, 11, 34] (fun v u a i wr => ∃ k : Nat, k ≤ M ∧ i = .int .i64 k ∧ Hid (R3 wr g v u a (wh k (newQ T)) (wh k (backQ X T)) (wh k (keptQ X T))) ∧ Hid (Below g W6 wr) ∧ g ≤ wr.heap.size) (fun _ _ _ i _ => M - (intOf i).toNat)
  case atStart => exact ⟨0, Nat.zero_le _, rfl, RX, BX, zX⟩
  case round =>
    obtain ⟨k, hk, rfl, hR, hB, hz⟩ := hrel
    have l1 := wh_le k (newQ T)
    have l2 := wh_le k (backQ X T)
    have l3 := wh_le k (keptQ X T)
    obtain ⟨F1, f1, rfl, _, _⟩ := own_slice hR.out.ov
    obtain ⟨F2, f2, rfl, _, _⟩ := own_slice hR.out.ou
    obtain ⟨F3, f3, rfl, _, _⟩ := own_slice hR.out.oa
    by_cases hlt : k < M
    · obtain ⟨b1, o1, rfl, hb1, hc1⟩ := V9.out.one (iv_at T k (by have := HTL.out; omega))
      have hb1g : b1 < g := by have := HGW.out; omega
      have hd1 := (hB.out.cell (p := ⟨b1, o1 + k, none⟩) hb1g).trans hc1
      have hn1 := wh_next k (newQ T)
      have hn2 := wh_next k (backQ X T)
      have hn3 := wh_next k (keptQ X T)
      have hrng := HTR.out k hlt
      obtain ⟨x, hx⟩ : ∃ x, x = ats T k := ⟨_, rfl⟩
      rw [← hx] at hd1 hrng
      have HATX : Hid (ats T k = x) := hx.symm
      clear hc1 hx
      have H1 : Hid (newQ T k = decide (x < 0)) := by show _ = _; unfold newQ; rw [HATX.out]
      have H2 : Hid (backQ X T k = (decide (0 ≤ x) && (decide (x < (N : Int)) && (gk X x.toNat).2))) := by show _ = _; unfold backQ; rw [HATX.out, LX.out]
      have H3 : Hid (keptQ X T k = (decide (0 ≤ x) && (decide (x < (N : Int)) && !(gk X x.toNat).2))) := by show _ = _; unfold keptQ; rw [HATX.out, LX.out]
      rw [H1.out] at hn1
      rw [H2.out] at hn2
      rw [H3.out] at hn3
      clear H1 H2 H3 HATX
      rcases hrng with rfl | ⟨j, rfl, hj⟩
      · have HN1 : Hid (wh (k + 1) (newQ T) = wh k (newQ T) ++ [k]) := by show _ = _; simpa using hn1
        have HN2 : Hid (wh (k + 1) (backQ X T) = wh k (backQ X T)) := by show _ = _; simpa using hn2
        have HN3 : Hid (wh (k + 1) (keptQ X T) = wh k (keptQ X T)) := by show _ = _; simpa using hn3
        clear hn1 hn2 hn3
        have ho := hR.out.ov
        obtain ⟨v1, w1, hrun, hown1, hgrow1, _, hat1⟩ := run_append_own_at (P := Try.prog) (wr.alloc (.cells #[.int .i64 (k : Int)] 3)) g 29 29 3 i0 (.int .i64 0) 1 8 Try.underlying29 hi hz0 hz1 hz2 rfl (by decide) _ _ _ (ho.alloc (.cells #[.int .i64 (k : Int)] 3)) ⟨wr.heap.size, 0, none⟩ 1 1 [.int .i64 (k : Int)] rfl (cells_new' _ _ _ _ rfl _ rfl) (fun u hu => by rw [List.mem_singleton.1 hu]; rfl) (by unfold maxLen; omega) (by omega) (by rw [size_alloc]; omega)
        have R1 : Hid (R3 w1 g v1 (.slice F2 (wh k (backQ X T)).length f2) (.slice F3 (wh k (keptQ X T)).length f3) (wh (k + 1) (newQ T)) (wh (k + 1) (backQ X T)) (wh (k + 1) (keptQ X T))) := by
          show R3 _ _ _ _ _ _ _ _
          rw [HN1.out, HN2.out, HN3.out]
          exact hR.out.pushV (o := .cells #[.int .i64 (k : Int)] 3) hown1 hgrow1 hat1
        have B1 : Hid (Below g W6 w1) := Below.grown (hB.out.alloc hz (.cells #[.int .i64 (k : Int)] 3)) hgrow1 (by rw [size_alloc]; omega) (fun q hq => own_from ho q hq)
        have z1 : g ≤ w1.heap.size := by have := hgrow1.size; rw [size_alloc] at this; omega
        clear hown1 hgrow1 hat1 ho hR hB
        go_wp2_with fail
        clear hrun
        go_roundw
        case rel => exact ⟨k + 1, by omega, by go_num, R1, B1, z1⟩
        case measure => simp [intOf]; omega
      · obtain ⟨b2, o2, hA6, hb2, _, hc2⟩ := at_gk U6.out (k := j) (by have := LX.out; omega)
        have hb2g : b2 < g := by have h1 := HGW.out; have h2 := B36.out.size; omega
        have hd2 := (hB.out.cell (p := ⟨b2, o2 + j * 2 + 1, none⟩) hb2g).trans ((B36.out.cell (p := ⟨b2, o2 + j * 2 + 1, none⟩) hb2).trans hc2)
        have e1 : decide ((j : Int) < 0) = false := decide_eq_false (by omega)
        have e2 : decide (0 ≤ (j : Int)) = true := decide_eq_true (by omega)
        have e3 : decide ((j : Int) < (N : Int)) = true := decide_eq_true (by omega)
        have e4 : ((j : Int)).toNat = j := by omega
        rw [e1] at hn1
        rw [e2, e3, e4] at hn2 hn3
        have HN1 : Hid (wh (k + 1) (newQ T) = wh k (newQ T)) := by show _ = _; simpa using hn1
        generalize (gk X j).2 = gh at *
        clear e1 e2 e3 e4 hn1 hc2
        subst hA6
        cases gh with
        | true =>
          have HN2 : Hid (wh (k + 1) (backQ X T) = wh k (backQ X T) ++ [k]) := by show _ = _; simpa using hn2
          have HN3 : Hid (wh (k + 1) (keptQ X T) = wh k (keptQ X T)) := by show _ = _; simpa using hn3
          clear hn2 hn3
          have ho := hR.out.ou
          obtain ⟨v1, w1, hrun, hown1, hgrow1, _, hat1⟩ := run_append_own_at (P := Try.prog) (wr.alloc (.cells #[.int .i64 (k : Int)] 3)) g 29 29 3 i0 (.int .i64 0) 1 8 Try.underlying29 hi hz0 hz1 hz2 rfl (by decide) _ _ _ (ho.alloc (.cells #[.int .i64 (k : Int)] 3)) ⟨wr.heap.size, 0, none⟩ 1 1 [.int .i64 (k : Int)] rfl (cells_new' _ _ _ _ rfl _ rfl) (fun u hu => by rw [List.mem_singleton.1 hu]; rfl) (by unfold maxLen; omega) (by omega) (by rw [size_alloc]; omega)
          have R1 : Hid (R3 w1 g (.slice F1 (wh k (newQ T)).length f1) v1 (.slice F3 (wh k (keptQ X T)).length f3) (wh (k + 1) (newQ T)) (wh (k + 1) (backQ X T)) (wh (k + 1) (keptQ X T))) := by
            show R3 _ _ _ _ _ _ _ _
            rw [HN1.out, HN2.out, HN3.out]
            exact hR.out.pushU (o := .cells #[.int .i64 (k : Int)] 3) hown1 hgrow1 hat1
          have B1 : Hid (Below g W6 w1) := Below.grown (hB.out.alloc hz (.cells #[.int .i64 (k : Int)] 3)) hgrow1 (by rw [size_alloc]; omega) (fun q hq => own_from ho q hq)
          have z1 : g ≤ w1.heap.size := by have := hgrow1.size; rw [size_alloc] at this; omega
          clear hown1 hgrow1 hat1 ho hR hB
          go_wp2_with fail
          clear hrun
          go_roundw
          case rel => exact ⟨k + 1, by omega, by go_num, R1, B1, z1⟩
          case measure => simp [intOf]; omega
        | false =>
          have HN2 : Hid (wh (k + 1) (backQ X T) = wh k (backQ X T)) := by show _ = _; simpa using hn2
          have HN3 : Hid (wh (k + 1) (keptQ X T) = wh k (keptQ X T) ++ [k]) := by show _ = _; simpa using hn3
          clear hn2 hn3
          have ho := hR.out.oa
          obtain ⟨v1, w1, hrun, hown1, hgrow1, _, hat1⟩ := run_append_own_at (P := Try.prog) (wr.alloc (.cells #[.int .i64 (k : Int)] 3)) g 29 29 3 i0 (.int .i64 0) 1 8 Try.underlying29 hi hz0 hz1 hz2 rfl (by decide) _ _ _ (ho.alloc (.cells #[.int .i64 (k : Int)] 3)) ⟨wr.heap.size, 0, none⟩ 1 1 [.int .i64 (k : Int)] rfl (cells_new' _ _ _ _ rfl _ rfl) (fun u hu => by rw [List.mem_singleton.1 hu]; rfl) (by unfold maxLen; omega) (by omega) (by rw [size_alloc]; omega)
          have R1 : Hid (R3 w1 g (.slice F1 (wh k (newQ T)).length f1) (.slice F2 (wh k (backQ X T)).length f2) v1 (wh (k + 1) (newQ T)) (wh (k + 1) (backQ X T)) (wh (k + 1) (keptQ X T))) := by
            show R3 _ _ _ _ _ _ _ _
            rw [HN1.out, HN2.out, HN3.out]
            exact hR.out.pushA (o := .cells #[.int .i64 (k : Int)] 3) hown1 hgrow1 hat1
          have B1 : Hid (Below g W6 w1) := Below.grown (hB.out.alloc hz (.cells #[.int .i64 (k : Int)] 3)) hgrow1 (by rw [size_alloc]; omega) (fun q hq => own_from ho q hq)
          have z1 : g ≤ w1.heap.size := by have := hgrow1.size; rw [size_alloc] at this; omega
          clear hown1 hgrow1 hat1 ho hR hB
          go_wp2_with fail
          clear hrun
          go_roundw
          case rel => exact ⟨k + 1, by omega, by go_num, R1, B1, z1⟩
          case measure => simp [intOf]; omega
    · obtain rfl : k = M := by omega
      have hwq : w6.heap.size ≤ wr.heap.size := by have := HG.out; omega
      obtain ⟨U, hU⟩ : ∃ U, U = wr := ⟨_, rfl⟩
      rw [← hU] at hR hB hz ⊢
      have hgW2 := HGW.out
      have B6U : Hid (Below W6.heap.size W6 U) := by show Below _ _ _; rw [hgW2]; exact hB.out
      have B3U := Lib.hid (B36.out.trans (B6U.out.mono B36.out.size))
      have HBU := Lib.hid (HB3.out.trans (B3U.out.mono HB3.out.size))
      have KU := Lib.hid (KP'.out.below B6U.out)
      have TP := Lib.hid (fun W (hW : Below U.heap.size U W) => (V8'.out.below B6U.out).below hW)
      have TL := Lib.hid (fun W (hW : Below U.heap.size U W) => (V7'.out.below B6U.out).below hW)
      have TK := Lib.hid (fun W (hW : Below U.heap.size U W) => (V9.out.below B6U.out).below hW)
      have TF := Lib.hid (fun W (hW : Below U.heap.size U W) => (At.own hR.out.ov).below hW)
      have TB := Lib.hid (fun W (hW : Below U.heap.size U W) => (At.own hR.out.ou).below hW)
      have TT := Lib.hid (fun W (hW : Below U.heap.size U W) => (At.own hR.out.oa).below hW)
      have CL := Lib.hid (fun W (hW : Below U.heap.size U W) => CLx.out W (B3U.out.trans (hW.mono B3U.out.size)))
      have CH := Lib.hid (fun W (hW : Below U.heap.size U W) => CHx.out W (B3U.out.trans (hW.mono B3U.out.size)))
      have CN := Lib.hid (fun W (hW : Below U.heap.size U W) => new_any (.slice A7 (leaves X T).length c7) A8 k c8 T W HTL.out (by omega) (TP.out W hW))
      have CB := Lib.hid (fun W (hW : Below U.heap.size U W) => back_any (.slice A7 (leaves X T).length c7) A5 N c5 X A8 k c8 T W HTL.out LX.out (by omega) ((U5.out.below B3U.out).below hW) (TP.out W hW))
      have CK := Lib.hid (fun W (hW : Below U.heap.size U W) => kept_any (.slice A7 (leaves X T).length c7) A5 N c5 X A8 k c8 T W HTL.out LX.out (by omega) ((U5.out.below B3U.out).below hW) (TP.out W hW))
      have CG := Lib.hid (fun W (hW : Below U.heap.size U W) => ghosts_any A7 _ c7 X T A5 N c5 A8 k c8 W HTL.out LX.out (by omega) (by omega) rfl (TL.out W hW) ((U5.out.below B3U.out).below hW) (TP.out W hW))
      have HLV : Hid (wh N (leaveQ X T) = leaves X T) := by show _ = _; unfold leaves; rw [LX.out]
      have HGV : Hid (wh N (ghostQ T) = ghosts X T) := by show _ = _; unfold ghosts; rw [LX.out]
      have hgl : (ghosts X T).length ≤ 20 := by
        have h1 := wh_le X.length (ghostQ T)
        have h2 := LX.out
        unfold ghosts
        omega
      rw [HLV.out] at CL
      rw [HGV.out] at CH
      have SH := Lib.hid (fun W (BW : Below U.heap.size U W) => (⟨(BW.cell (p := ⟨gp, 0, none⟩) KU.out.lt).trans (KU.out.cell 0 (v := .slice A7 (leaves X T).length c7) rfl), (BW.cell (p := ⟨gp, 1, none⟩) KU.out.lt).trans (KU.out.cell 1 (v := .slice A8 k c8) rfl), BW⟩ : (fun w' => w'.cell? ⟨gp, 0, none⟩ = some (.slice A7 (leaves X T).length c7) ∧ w'.cell? ⟨gp, 1, none⟩ = some (.slice A8 k c8) ∧ Below U.heap.size U w') W))
      clear hU hR hB hz CLx CHx V7' V8' V9 U5 U6 U1 KP' B36 B6U hwq hgW2 hlt hk
      go_upto_region 17 with fail
      have HB0 := Lib.hid (show Below U.heap.size U U.drew from Below_drew (Below.refl _ _))
      obtain ⟨X0, hX0⟩ : ∃ X, X = U.drew := ⟨_, rfl⟩
      refine wp_region_held_drew (S := (fun w' => w'.cell? ⟨gp, 0, none⟩ = some (.slice A7 (leaves X T).length c7) ∧ w'.cell? ⟨gp, 1, none⟩ = some (.slice A8 k c8) ∧ Below U.heap.size U w')) (by kernel_rfl) (SH.out _ HB0.out) (fun hH0 => ?_)
      rw [← hX0] at HB0 hH0 ⊢
      clear hX0
      refine wpAnyH_take (i := 0) (oi := Oper.mk (some 61) (Op.fieldAddr 31 (Operand.tmp 7) 1) 0 "law.go:49" #[] none) (v := ?_) rfl (by kernel_rfl) (by kernel_rfl) (by kernel_rfl) (fun _ _ _ h => h) (Or.inl ⟨by rfl, ?_⟩) (by assumption) ?_
      rotate_left 1
      · (intro w hSw; (try dsimp only at hSw); go_simp; (try with_reducible rfl))
      try simp only [Act.put, List.setIfInBounds_toArray, List.set_cons_zero, List.set_cons_succ]
      refine wpAnyH_take (i := 1) (oi := Oper.mk (some 62) (Op.load 29 (Operand.tmp 61)) 29 "law.go:49" #[Edge.mk 0 Ground.data] none) (v := ?_) rfl (by kernel_rfl) (by kernel_rfl) (by kernel_rfl) (fun _ _ _ h => h) (Or.inl ⟨by rfl, ?_⟩) (by assumption) ?_
      rotate_left 1
      · (intro w hSw; (try dsimp only at hSw); go_simp; (try with_reducible rfl))
      try simp only [Act.put, List.setIfInBounds_toArray, List.set_cons_zero, List.set_cons_succ]
      refine wpAnyH_take (i := 2) (oi := Oper.mk (some 63) (Op.move (Operand.tmp 8)) 29 "law.go:49" #[] none) (v := ?_) rfl (by kernel_rfl) (by kernel_rfl) (by kernel_rfl) (fun _ _ _ h => h) (Or.inl ⟨by rfl, ?_⟩) (by assumption) ?_
      rotate_left 1
      · (intro w hSw; (try dsimp only at hSw); go_simp; (try with_reducible rfl))
      try simp only [Act.put, List.setIfInBounds_toArray, List.set_cons_zero, List.set_cons_succ]
      refine wpAnyH_ready (rs := [3]) (by kernel_rfl) (by simp) ?_
      refine (AllReadyH.cons (o := Oper.mk (some 64) (Op.call (Call.mk (Callee.value (Operand.func 16)) #[Operand.tmp 62, Operand.tmp 63] #[29, 29])) 4 "law.go:49" #[Edge.mk 1 Ground.data, Edge.mk 2 Ground.data] none) rfl (fun K hK => ?_) AllReadyH.nil)
      go_simp
      go_at_call 16
      (with_reducible refine (numbersT A8 A9 k c8 k c9 T _ HTL.out HTL.out (by omega) (TP.out _ HB0.out) (TK.out _ HB0.out)).mono ?_)
      rintro e9 X1 ⟨rfl, hb⟩
      have HB1 := Lib.hid (HB0.out.trans (hb.mono HB0.out.size))
      clear hb HB0
      go_wp2_with fail
      refine hK.out _ _ ?_ (fun hH1 => ?_)
      · exact SH.out _ HB1.out
      clear hK K
      try clear hH0
      try simp only [Act.put, List.setIfInBounds_toArray, List.set_cons_zero, List.set_cons_succ]
      refine wpAnyH_take (i := 4) (oi := Oper.mk (some 65) (Op.move (Operand.tmp 64)) 4 "law.go:49" #[Edge.mk 3 Ground.data, Edge.mk 3 Ground.chain] none) (v := ?_) rfl (by kernel_rfl) (by kernel_rfl) (by kernel_rfl) (fun _ _ _ h => h) (Or.inl ⟨by rfl, ?_⟩) (by assumption) ?_
      rotate_left 1
      · (intro w hSw; (try dsimp only at hSw); go_simp; (try with_reducible rfl))
      try simp only [Act.put, List.setIfInBounds_toArray, List.set_cons_zero, List.set_cons_succ]
      refine wpAnyH_take (i := 5) (oi := Oper.mk (some 66) (Op.fieldAddr 31 (Operand.tmp 7) 0) 0 "law.go:49" #[Edge.mk 4 Ground.guard] (some (4, true))) (v := ?_) rfl (by kernel_rfl) (by kernel_rfl) (by kernel_rfl) (fun _ _ _ h => h) (Or.inl ⟨by rfl, ?_⟩) (by assumption) ?_
      rotate_left 1
      · (intro w hSw; (try dsimp only at hSw); go_simp; (try with_reducible rfl))
      try simp only [Act.put, List.setIfInBounds_toArray, List.set_cons_zero, List.set_cons_succ]
      refine wpAnyH_take (i := 6) (oi := Oper.mk (some 67) (Op.load 29 (Operand.tmp 66)) 29 "law.go:49" #[Edge.mk 5 Ground.data, Edge.mk 4 Ground.guard] (some (4, true))) (v := ?_) rfl (by kernel_rfl) (by kernel_rfl) (by kernel_rfl) (fun _ _ _ h => h) (Or.inl ⟨by rfl, ?_⟩) (by assumption) ?_
      rotate_left 1
      · (intro w hSw; (try dsimp only at hSw); go_simp; (try with_reducible rfl))
      try simp only [Act.put, List.setIfInBounds_toArray, List.set_cons_zero, List.set_cons_succ]
      refine wpAnyH_take (i := 7) (oi := Oper.mk (some 68) (Op.move (Operand.tmp 6)) 22 "law.go:49" #[Edge.mk 4 Ground.guard] (some (4, true))) (v := ?_) rfl (by kernel_rfl) (by kernel_rfl) (by kernel_rfl) (fun _ _ _ h => h) (Or.inl ⟨by rfl, ?_⟩) (by assumption) ?_
      rotate_left 1
      · (intro w hSw; (try dsimp only at hSw); go_simp; (try with_reducible rfl))
      try simp only [Act.put, List.setIfInBounds_toArray, List.set_cons_zero, List.set_cons_succ]
      refine wpAnyH_take (i := 8) (oi := Oper.mk (some 69) (Op.move (Operand.tmp 1)) 23 "law.go:49" #[Edge.mk 4 Ground.guard] (some (4, true))) (v := ?_) rfl (by kernel_rfl) (by kernel_rfl) (by kernel_rfl) (fun _ _ _ h => h) (Or.inl ⟨by rfl, ?_⟩) (by assumption) ?_
      rotate_left 1
      · (intro w hSw; (try dsimp only at hSw); go_simp; (try with_reducible rfl))
      try simp only [Act.put, List.setIfInBounds_toArray, List.set_cons_zero, List.set_cons_succ]
      refine wpAnyH_ready (rs := [9]) (by kernel_rfl) (by simp) ?_
      refine (AllReadyH.cons (o := Oper.mk (some 70) (Op.call (Call.mk (Callee.value (Operand.func 17)) #[Operand.tmp 68, Operand.tmp 69] #[22, 23])) 29 "law.go:49" #[Edge.mk 7 Ground.data, Edge.mk 8 Ground.data, Edge.mk 4 Ground.chain, Edge.mk 4 Ground.guard] (some (4, true))) rfl (fun K hK => ?_) AllReadyH.nil)
      go_simp
      go_at_call 17
      (with_reducible refine (CL.out _ HB1.out).mono ?_)
      rintro e9 X2 ⟨v9, rfl, ho, hb⟩
      obtain ⟨E1, d1, rfl, _, _⟩ := own_slice ho
      have HB2 := Lib.hid (HB1.out.trans (hb.mono HB1.out.size))
      have R1x2 := Lib.hid (own_mono ho HB1.out.size)
      clear ho hb HB1
      go_wp2_with fail
      refine hK.out _ _ ?_ (fun hH2 => ?_)
      · exact SH.out _ HB2.out
      clear hK K
      try clear hH1
      try simp only [Act.put, List.setIfInBounds_toArray, List.set_cons_zero, List.set_cons_succ]
      refine wpAnyH_ready (rs := [10]) (by kernel_rfl) (by simp) ?_
      refine (AllReadyH.cons (o := Oper.mk (some 71) (Op.call (Call.mk (Callee.value (Operand.func 16)) #[Operand.tmp 67, Operand.tmp 70] #[29, 29])) 4 "law.go:49" #[Edge.mk 6 Ground.data, Edge.mk 9 Ground.data, Edge.mk 9 Ground.chain, Edge.mk 4 Ground.guard] (some (4, true))) rfl (fun K hK => ?_) AllReadyH.nil)
      go_simp
      go_at_call 16
      (with_reducible refine (numbersV A7 E1 _ c7 _ d1 (leaves X T) _ rfl rfl (by omega) (TL.out _ HB2.out) (At.own R1x2.out)).mono ?_)
      rintro e9 X3 ⟨rfl, hb⟩
      have HB3 := Lib.hid (HB2.out.trans (hb.mono HB2.out.size))
      have R1x3 := Lib.hid (own_below R1x2.out hb)
      clear R1x2
      clear hb HB2
      go_wp2_with fail
      refine hK.out _ _ ?_ (fun hH3 => ?_)
      · exact SH.out _ HB3.out
      clear hK K
      try clear hH2
      try simp only [Act.put, List.setIfInBounds_toArray, List.set_cons_zero, List.set_cons_succ]
      refine wpAnyH_take (i := 11) (oi := Oper.mk (some 72) (Op.pick (Operand.tmp 65) (Operand.tmp 71) (Operand.const (Value.bool false))) 4 "law.go:49" #[Edge.mk 4 Ground.data, Edge.mk 10 Ground.data] none) (v := ?_) rfl (by kernel_rfl) (by kernel_rfl) (by kernel_rfl) (fun _ _ _ h => h) (Or.inl ⟨by rfl, ?_⟩) (by assumption) ?_
      rotate_left 1
      · (intro w hSw; (try dsimp only at hSw); go_simp; (try with_reducible rfl))
      try simp only [Act.put, List.setIfInBounds_toArray, List.set_cons_zero, List.set_cons_succ]
      refine wpAnyH_take (i := 12) (oi := Oper.mk (some 73) (Op.move (Operand.tmp 72)) 4 "law.go:49" #[Edge.mk 11 Ground.data, Edge.mk 10 Ground.chain] none) (v := ?_) rfl (by kernel_rfl) (by kernel_rfl) (by kernel_rfl) (fun _ _ _ h => h) (Or.inl ⟨by rfl, ?_⟩) (by assumption) ?_
      rotate_left 1
      · (intro w hSw; (try dsimp only at hSw); go_simp; (try with_reducible rfl))
      try simp only [Act.put, List.setIfInBounds_toArray, List.set_cons_zero, List.set_cons_succ]
      refine wpAnyH_take (i := 13) (oi := Oper.mk (some 74) (Op.load 31 (Operand.tmp 7)) 31 "law.go:49" #[Edge.mk 12 Ground.guard] (some (12, true))) (v := ?_) rfl (by kernel_rfl) (by kernel_rfl) (by kernel_rfl) (fun _ _ _ h => h) (Or.inl ⟨by rfl, ?_⟩) (by assumption) ?_
      rotate_left 1
      · (intro w hSw; (try dsimp only at hSw); go_simp; (try with_reducible rfl))
      try simp only [Act.put, List.setIfInBounds_toArray, List.set_cons_zero, List.set_cons_succ]
      refine wpAnyH_take (i := 15) (oi := Oper.mk (some 76) (Op.move (Operand.tmp 9)) 29 "law.go:49" #[Edge.mk 12 Ground.guard] (some (12, true))) (v := ?_) rfl (by kernel_rfl) (by kernel_rfl) (by kernel_rfl) (fun _ _ _ h => h) (Or.inl ⟨by rfl, ?_⟩) (by assumption) ?_
      rotate_left 1
      · (intro w hSw; (try dsimp only at hSw); go_simp; (try with_reducible rfl))
      try simp only [Act.put, List.setIfInBounds_toArray, List.set_cons_zero, List.set_cons_succ]
      refine wpAnyH_ready (rs := [14]) (by kernel_rfl) (by simp) ?_
      refine (AllReadyH.cons (o := Oper.mk (some 75) (Op.call (Call.mk (Callee.value (Operand.func 18)) #[Operand.tmp 74] #[31])) 29 "law.go:49" #[Edge.mk 13 Ground.data, Edge.mk 12 Ground.chain, Edge.mk 12 Ground.guard] (some (12, true))) rfl (fun K hK => ?_) AllReadyH.nil)
      go_simp
      go_at_call 18
      (with_reducible refine (CN.out _ HB3.out).mono ?_)
      rintro e9 X4 ⟨v9, rfl, ho, hb⟩
      obtain ⟨E2, d2, rfl, _, _⟩ := own_slice ho
      have HB4 := Lib.hid (HB3.out.trans (hb.mono HB3.out.size))
      have R2x4 := Lib.hid (own_mono ho HB3.out.size)
      have R1x4 := Lib.hid (own_below R1x3.out hb)
      clear R1x3
      clear ho hb HB3
      go_wp2_with fail
      refine hK.out _ _ ?_ (fun hH4 => ?_)
      · exact SH.out _ HB4.out
      clear hK K
      try clear hH3
      try simp only [Act.put, List.setIfInBounds_toArray, List.set_cons_zero, List.set_cons_succ]
      refine wpAnyH_ready (rs := [16]) (by kernel_rfl) (by simp) ?_
      refine (AllReadyH.cons (o := Oper.mk (some 77) (Op.call (Call.mk (Callee.value (Operand.func 16)) #[Operand.tmp 75, Operand.tmp 76] #[29, 29])) 4 "law.go:49" #[Edge.mk 14 Ground.data, Edge.mk 15 Ground.data, Edge.mk 14 Ground.chain, Edge.mk 12 Ground.guard] (some (12, true))) rfl (fun K hK => ?_) AllReadyH.nil)
      go_simp
      go_at_call 16
      (with_reducible refine (numbersV E2 F1 _ d2 _ f1 (wh k (newQ T)) _ rfl rfl (by omega) (At.own R2x4.out) (TF.out _ HB4.out)).mono ?_)
      rintro e9 X5 ⟨rfl, hb⟩
      have HB5 := Lib.hid (HB4.out.trans (hb.mono HB4.out.size))
      have R1x5 := Lib.hid (own_below R1x4.out hb)
      clear R1x4
      have R2x5 := Lib.hid (own_below R2x4.out hb)
      clear R2x4
      clear hb HB4
      go_wp2_with fail
      refine hK.out _ _ ?_ (fun hH5 => ?_)
      · exact SH.out _ HB5.out
      clear hK K
      try clear hH4
      try simp only [Act.put, List.setIfInBounds_toArray, List.set_cons_zero, List.set_cons_succ]
      refine wpAnyH_take (i := 17) (oi := Oper.mk (some 78) (Op.pick (Operand.tmp 73) (Operand.tmp 77) (Operand.const (Value.bool false))) 4 "law.go:49" #[Edge.mk 12 Ground.data, Edge.mk 16 Ground.data] none) (v := ?_) rfl (by kernel_rfl) (by kernel_rfl) (by kernel_rfl) (fun _ _ _ h => h) (Or.inl ⟨by rfl, ?_⟩) (by assumption) ?_
      rotate_left 1
      · (intro w hSw; (try dsimp only at hSw); go_simp; (try with_reducible rfl))
      try simp only [Act.put, List.setIfInBounds_toArray, List.set_cons_zero, List.set_cons_succ]
      refine wpAnyH_take (i := 18) (oi := Oper.mk (some 79) (Op.move (Operand.tmp 78)) 4 "law.go:49" #[Edge.mk 17 Ground.data, Edge.mk 16 Ground.chain] none) (v := ?_) rfl (by kernel_rfl) (by kernel_rfl) (by kernel_rfl) (fun _ _ _ h => h) (Or.inl ⟨by rfl, ?_⟩) (by assumption) ?_
      rotate_left 1
      · (intro w hSw; (try dsimp only at hSw); go_simp; (try with_reducible rfl))
      try simp only [Act.put, List.setIfInBounds_toArray, List.set_cons_zero, List.set_cons_succ]
      refine wpAnyH_take (i := 19) (oi := Oper.mk (some 80) (Op.load 31 (Operand.tmp 7)) 31 "law.go:49" #[Edge.mk 18 Ground.guard] (some (18, true))) (v := ?_) rfl (by kernel_rfl) (by kernel_rfl) (by kernel_rfl) (fun _ _ _ h => h) (Or.inl ⟨by rfl, ?_⟩) (by assumption) ?_
      rotate_left 1
      · (intro w hSw; (try dsimp only at hSw); go_simp; (try with_reducible rfl))
      try simp only [Act.put, List.setIfInBounds_toArray, List.set_cons_zero, List.set_cons_succ]
      refine wpAnyH_take (i := 20) (oi := Oper.mk (some 81) (Op.move (Operand.tmp 5)) 25 "law.go:49" #[Edge.mk 18 Ground.guard] (some (18, true))) (v := ?_) rfl (by kernel_rfl) (by kernel_rfl) (by kernel_rfl) (fun _ _ _ h => h) (Or.inl ⟨by rfl, ?_⟩) (by assumption) ?_
      rotate_left 1
      · (intro w hSw; (try dsimp only at hSw); go_simp; (try with_reducible rfl))
      try simp only [Act.put, List.setIfInBounds_toArray, List.set_cons_zero, List.set_cons_succ]
      refine wpAnyH_take (i := 22) (oi := Oper.mk (some 83) (Op.move (Operand.tmp 10)) 29 "law.go:49" #[Edge.mk 18 Ground.guard] (some (18, true))) (v := ?_) rfl (by kernel_rfl) (by kernel_rfl) (by kernel_rfl) (fun _ _ _ h => h) (Or.inl ⟨by rfl, ?_⟩) (by assumption) ?_
      rotate_left 1
      · (intro w hSw; (try dsimp only at hSw); go_simp; (try with_reducible rfl))
      try simp only [Act.put, List.setIfInBounds_toArray, List.set_cons_zero, List.set_cons_succ]
      refine wpAnyH_ready (rs := [21]) (by kernel_rfl) (by simp) ?_
      refine (AllReadyH.cons (o := Oper.mk (some 82) (Op.call (Call.mk (Callee.value (Operand.func 19)) #[Operand.tmp 80, Operand.tmp 81] #[31, 25])) 29 "law.go:49" #[Edge.mk 19 Ground.data, Edge.mk 20 Ground.data, Edge.mk 18 Ground.chain, Edge.mk 18 Ground.guard] (some (18, true))) rfl (fun K hK => ?_) AllReadyH.nil)
      go_simp
      go_at_call 19
      (with_reducible refine (CB.out _ HB5.out).mono ?_)
      rintro e9 X6 ⟨v9, rfl, ho, hb⟩
      obtain ⟨E3, d3, rfl, _, _⟩ := own_slice ho
      have HB6 := Lib.hid (HB5.out.trans (hb.mono HB5.out.size))
      have R3x6 := Lib.hid (own_mono ho HB5.out.size)
      have R1x6 := Lib.hid (own_below R1x5.out hb)
      clear R1x5
      have R2x6 := Lib.hid (own_below R2x5.out hb)
      clear R2x5
      clear ho hb HB5
      go_wp2_with fail
      refine hK.out _ _ ?_ (fun hH6 => ?_)
      · exact SH.out _ HB6.out
      clear hK K
      try clear hH5
      try simp only [Act.put, List.setIfInBounds_toArray, List.set_cons_zero, List.set_cons_succ]
      refine wpAnyH_ready (rs := [23]) (by kernel_rfl) (by simp) ?_
      refine (AllReadyH.cons (o := Oper.mk (some 84) (Op.call (Call.mk (Callee.value (Operand.func 16)) #[Operand.tmp 82, Operand.tmp 83] #[29, 29])) 4 "law.go:49" #[Edge.mk 21 Ground.data, Edge.mk 22 Ground.data, Edge.mk 21 Ground.chain, Edge.mk 18 Ground.guard] (some (18, true))) rfl (fun K hK => ?_) AllReadyH.nil)
      go_simp
      go_at_call 16
      (with_reducible refine (numbersV E3 F2 _ d3 _ f2 (wh k (backQ X T)) _ rfl rfl (by omega) (At.own R3x6.out) (TB.out _ HB6.out)).mono ?_)
      rintro e9 X7 ⟨rfl, hb⟩
      have HB7 := Lib.hid (HB6.out.trans (hb.mono HB6.out.size))
      have R1x7 := Lib.hid (own_below R1x6.out hb)
      clear R1x6
      have R2x7 := Lib.hid (own_below R2x6.out hb)
      clear R2x6
      have R3x7 := Lib.hid (own_below R3x6.out hb)
      clear R3x6
      clear hb HB6
      go_wp2_with fail
      refine hK.out _ _ ?_ (fun hH7 => ?_)
      · exact SH.out _ HB7.out
      clear hK K
      try clear hH6
      try simp only [Act.put, List.setIfInBounds_toArray, List.set_cons_zero, List.set_cons_succ]
      refine wpAnyH_take (i := 24) (oi := Oper.mk (some 85) (Op.pick (Operand.tmp 79) (Operand.tmp 84) (Operand.const (Value.bool false))) 4 "law.go:49" #[Edge.mk 18 Ground.data, Edge.mk 23 Ground.data] none) (v := ?_) rfl (by kernel_rfl) (by kernel_rfl) (by kernel_rfl) (fun _ _ _ h => h) (Or.inl ⟨by rfl, ?_⟩) (by assumption) ?_
      rotate_left 1
      · (intro w hSw; (try dsimp only at hSw); go_simp; (try with_reducible rfl))
      try simp only [Act.put, List.setIfInBounds_toArray, List.set_cons_zero, List.set_cons_succ]
      refine wpAnyH_take (i := 25) (oi := Oper.mk (some 86) (Op.move (Operand.tmp 85)) 4 "law.go:49" #[Edge.mk 24 Ground.data, Edge.mk 23 Ground.chain] none) (v := ?_) rfl (by kernel_rfl) (by kernel_rfl) (by kernel_rfl) (fun _ _ _ h => h) (Or.inl ⟨by rfl, ?_⟩) (by assumption) ?_
      rotate_left 1
      · (intro w hSw; (try dsimp only at hSw); go_simp; (try with_reducible rfl))
      try simp only [Act.put, List.setIfInBounds_toArray, List.set_cons_zero, List.set_cons_succ]
      refine wpAnyH_take (i := 26) (oi := Oper.mk (some 87) (Op.load 31 (Operand.tmp 7)) 31 "law.go:49" #[Edge.mk 25 Ground.guard] (some (25, true))) (v := ?_) rfl (by kernel_rfl) (by kernel_rfl) (by kernel_rfl) (fun _ _ _ h => h) (Or.inl ⟨by rfl, ?_⟩) (by assumption) ?_
      rotate_left 1
      · (intro w hSw; (try dsimp only at hSw); go_simp; (try with_reducible rfl))
      try simp only [Act.put, List.setIfInBounds_toArray, List.set_cons_zero, List.set_cons_succ]
      refine wpAnyH_take (i := 27) (oi := Oper.mk (some 88) (Op.move (Operand.tmp 5)) 25 "law.go:49" #[Edge.mk 25 Ground.guard] (some (25, true))) (v := ?_) rfl (by kernel_rfl) (by kernel_rfl) (by kernel_rfl) (fun _ _ _ h => h) (Or.inl ⟨by rfl, ?_⟩) (by assumption) ?_
      rotate_left 1
      · (intro w hSw; (try dsimp only at hSw); go_simp; (try with_reducible rfl))
      try simp only [Act.put, List.setIfInBounds_toArray, List.set_cons_zero, List.set_cons_succ]
      refine wpAnyH_take (i := 29) (oi := Oper.mk (some 90) (Op.move (Operand.tmp 11)) 29 "law.go:49" #[Edge.mk 25 Ground.guard] (some (25, true))) (v := ?_) rfl (by kernel_rfl) (by kernel_rfl) (by kernel_rfl) (fun _ _ _ h => h) (Or.inl ⟨by rfl, ?_⟩) (by assumption) ?_
      rotate_left 1
      · (intro w hSw; (try dsimp only at hSw); go_simp; (try with_reducible rfl))
      try simp only [Act.put, List.setIfInBounds_toArray, List.set_cons_zero, List.set_cons_succ]
      refine wpAnyH_ready (rs := [28]) (by kernel_rfl) (by simp) ?_
      refine (AllReadyH.cons (o := Oper.mk (some 89) (Op.call (Call.mk (Callee.value (Operand.func 20)) #[Operand.tmp 87, Operand.tmp 88] #[31, 25])) 29 "law.go:49" #[Edge.mk 26 Ground.data, Edge.mk 27 Ground.data, Edge.mk 25 Ground.chain, Edge.mk 25 Ground.guard] (some (25, true))) rfl (fun K hK => ?_) AllReadyH.nil)
      go_simp
      go_at_call 20
      (with_reducible refine (CK.out _ HB7.out).mono ?_)
      rintro e9 X8 ⟨v9, rfl, ho, hb⟩
      obtain ⟨E4, d4, rfl, _, _⟩ := own_slice ho
      have HB8 := Lib.hid (HB7.out.trans (hb.mono HB7.out.size))
      have R4x8 := Lib.hid (own_mono ho HB7.out.size)
      have R1x8 := Lib.hid (own_below R1x7.out hb)
      clear R1x7
      have R2x8 := Lib.hid (own_below R2x7.out hb)
      clear R2x7
      have R3x8 := Lib.hid (own_below R3x7.out hb)
      clear R3x7
      clear ho hb HB7
      go_wp2_with fail
      refine hK.out _ _ ?_ (fun hH8 => ?_)
      · exact SH.out _ HB8.out
      clear hK K
      try clear hH7
      try simp only [Act.put, List.setIfInBounds_toArray, List.set_cons_zero, List.set_cons_succ]
      refine wpAnyH_ready (rs := [30]) (by kernel_rfl) (by simp) ?_
      refine (AllReadyH.cons (o := Oper.mk (some 91) (Op.call (Call.mk (Callee.value (Operand.func 16)) #[Operand.tmp 89, Operand.tmp 90] #[29, 29])) 4 "law.go:49" #[Edge.mk 28 Ground.data, Edge.mk 29 Ground.data, Edge.mk 28 Ground.chain, Edge.mk 25 Ground.guard] (some (25, true))) rfl (fun K hK => ?_) AllReadyH.nil)
      go_simp
      go_at_call 16
      (with_reducible refine (numbersV E4 F3 _ d4 _ f3 (wh k (keptQ X T)) _ rfl rfl (by omega) (At.own R4x8.out) (TT.out _ HB8.out)).mono ?_)
      rintro e9 X9 ⟨rfl, hb⟩
      have HB9 := Lib.hid (HB8.out.trans (hb.mono HB8.out.size))
      have R1x9 := Lib.hid (own_below R1x8.out hb)
      clear R1x8
      have R2x9 := Lib.hid (own_below R2x8.out hb)
      clear R2x8
      have R3x9 := Lib.hid (own_below R3x8.out hb)
      clear R3x8
      have R4x9 := Lib.hid (own_below R4x8.out hb)
      clear R4x8
      clear hb HB8
      go_wp2_with fail
      refine hK.out _ _ ?_ (fun hH9 => ?_)
      · exact SH.out _ HB9.out
      clear hK K
      try clear hH8
      try simp only [Act.put, List.setIfInBounds_toArray, List.set_cons_zero, List.set_cons_succ]
      refine wpAnyH_take (i := 31) (oi := Oper.mk (some 92) (Op.pick (Operand.tmp 86) (Operand.tmp 91) (Operand.const (Value.bool false))) 4 "law.go:49" #[Edge.mk 25 Ground.data, Edge.mk 30 Ground.data] none) (v := ?_) rfl (by kernel_rfl) (by kernel_rfl) (by kernel_rfl) (fun _ _ _ h => h) (Or.inl ⟨by rfl, ?_⟩) (by assumption) ?_
      rotate_left 1
      · (intro w hSw; (try dsimp only at hSw); go_simp; (try with_reducible rfl))
      try simp only [Act.put, List.setIfInBounds_toArray, List.set_cons_zero, List.set_cons_succ]
      refine wpAnyH_take (i := 32) (oi := Oper.mk (some 93) (Op.move (Operand.tmp 92)) 4 "law.go:49" #[Edge.mk 31 Ground.data, Edge.mk 30 Ground.chain] none) (v := ?_) rfl (by kernel_rfl) (by kernel_rfl) (by kernel_rfl) (fun _ _ _ h => h) (Or.inl ⟨by rfl, ?_⟩) (by assumption) ?_
      rotate_left 1
      · (intro w hSw; (try dsimp only at hSw); go_simp; (try with_reducible rfl))
      try simp only [Act.put, List.setIfInBounds_toArray, List.set_cons_zero, List.set_cons_succ]
      refine wpAnyH_take (i := 33) (oi := Oper.mk (some 94) (Op.load 31 (Operand.tmp 7)) 31 "law.go:49" #[Edge.mk 32 Ground.guard] (some (32, true))) (v := ?_) rfl (by kernel_rfl) (by kernel_rfl) (by kernel_rfl) (fun _ _ _ h => h) (Or.inl ⟨by rfl, ?_⟩) (by assumption) ?_
      rotate_left 1
      · (intro w hSw; (try dsimp only at hSw); go_simp; (try with_reducible rfl))
      try simp only [Act.put, List.setIfInBounds_toArray, List.set_cons_zero, List.set_cons_succ]
      refine wpAnyH_take (i := 34) (oi := Oper.mk (some 95) (Op.move (Operand.tmp 5)) 25 "law.go:49" #[Edge.mk 32 Ground.guard] (some (32, true))) (v := ?_) rfl (by kernel_rfl) (by kernel_rfl) (by kernel_rfl) (fun _ _ _ h => h) (Or.inl ⟨by rfl, ?_⟩) (by assumption) ?_
      rotate_left 1
      · (intro w hSw; (try dsimp only at hSw); go_simp; (try with_reducible rfl))
      try simp only [Act.put, List.setIfInBounds_toArray, List.set_cons_zero, List.set_cons_succ]
      refine wpAnyH_take (i := 36) (oi := Oper.mk (some 97) (Op.move (Operand.tmp 6)) 22 "law.go:49" #[Edge.mk 32 Ground.guard] (some (32, true))) (v := ?_) rfl (by kernel_rfl) (by kernel_rfl) (by kernel_rfl) (fun _ _ _ h => h) (Or.inl ⟨by rfl, ?_⟩) (by assumption) ?_
      rotate_left 1
      · (intro w hSw; (try dsimp only at hSw); go_simp; (try with_reducible rfl))
      try simp only [Act.put, List.setIfInBounds_toArray, List.set_cons_zero, List.set_cons_succ]
      refine wpAnyH_take (i := 37) (oi := Oper.mk (some 98) (Op.move (Operand.tmp 1)) 23 "law.go:49" #[Edge.mk 32 Ground.guard] (some (32, true))) (v := ?_) rfl (by kernel_rfl) (by kernel_rfl) (by kernel_rfl) (fun _ _ _ h => h) (Or.inl ⟨by rfl, ?_⟩) (by assumption) ?_
      rotate_left 1
      · (intro w hSw; (try dsimp only at hSw); go_simp; (try with_reducible rfl))
      try simp only [Act.put, List.setIfInBounds_toArray, List.set_cons_zero, List.set_cons_succ]
      refine wpAnyH_ready (rs := [35]) (by kernel_rfl) (by simp) ?_
      refine (AllReadyH.cons (o := Oper.mk (some 96) (Op.call (Call.mk (Callee.value (Operand.func 21)) #[Operand.tmp 94, Operand.tmp 95] #[31, 25])) 29 "law.go:49" #[Edge.mk 33 Ground.data, Edge.mk 34 Ground.data, Edge.mk 32 Ground.chain, Edge.mk 32 Ground.guard] (some (32, true))) rfl (fun K hK => ?_) AllReadyH.nil)
      go_simp
      go_at_call 21
      (with_reducible refine (CG.out _ HB9.out).mono ?_)
      rintro e9 X10 ⟨v9, rfl, ho, hb⟩
      obtain ⟨E5, d5, rfl, _, _⟩ := own_slice ho
      have HB10 := Lib.hid (HB9.out.trans (hb.mono HB9.out.size))
      have R5x10 := Lib.hid (own_mono ho HB9.out.size)
      have R1x10 := Lib.hid (own_below R1x9.out hb)
      clear R1x9
      have R2x10 := Lib.hid (own_below R2x9.out hb)
      clear R2x9
      have R3x10 := Lib.hid (own_below R3x9.out hb)
      clear R3x9
      have R4x10 := Lib.hid (own_below R4x9.out hb)
      clear R4x9
      clear ho hb HB9
      go_wp2_with fail
      refine hK.out _ _ ?_ (fun hH10 => ?_)
      · exact SH.out _ HB10.out
      clear hK K
      try clear hH9
      try simp only [Act.put, List.setIfInBounds_toArray, List.set_cons_zero, List.set_cons_succ]
      refine wpAnyH_ready (rs := [38]) (by kernel_rfl) (by simp) ?_
      refine (AllReadyH.cons (o := Oper.mk (some 99) (Op.call (Call.mk (Callee.value (Operand.func 22)) #[Operand.tmp 97, Operand.tmp 98] #[22, 23])) 29 "law.go:49" #[Edge.mk 36 Ground.data, Edge.mk 37 Ground.data, Edge.mk 35 Ground.chain, Edge.mk 32 Ground.guard] (some (32, true))) rfl (fun K hK => ?_) AllReadyH.nil)
      go_simp
      go_at_call 22
      (with_reducible refine (CH.out _ HB10.out).mono ?_)
      rintro e9 X11 ⟨v9, rfl, ho, hb⟩
      obtain ⟨E6, d6, rfl, _, _⟩ := own_slice ho
      have HB11 := Lib.hid (HB10.out.trans (hb.mono HB10.out.size))
      have R6x11 := Lib.hid (own_mono ho HB10.out.size)
      have R1x11 := Lib.hid (own_below R1x10.out hb)
      clear R1x10
      have R2x11 := Lib.hid (own_below R2x10.out hb)
      clear R2x10
      have R3x11 := Lib.hid (own_below R3x10.out hb)
      clear R3x10
      have R4x11 := Lib.hid (own_below R4x10.out hb)
      clear R4x10
      have R5x11 := Lib.hid (own_below R5x10.out hb)
      clear R5x10
      clear ho hb HB10
      go_wp2_with fail
      refine hK.out _ _ ?_ (fun hH11 => ?_)
      · exact SH.out _ HB11.out
      clear hK K
      try clear hH10
      try simp only [Act.put, List.setIfInBounds_toArray, List.set_cons_zero, List.set_cons_succ]
      refine wpAnyH_ready (rs := [39]) (by kernel_rfl) (by simp) ?_
      refine (AllReadyH.cons (o := Oper.mk (some 100) (Op.call (Call.mk (Callee.value (Operand.func 16)) #[Operand.tmp 96, Operand.tmp 99] #[29, 29])) 4 "law.go:49" #[Edge.mk 35 Ground.data, Edge.mk 38 Ground.data, Edge.mk 38 Ground.chain, Edge.mk 32 Ground.guard] (some (32, true))) rfl (fun K hK => ?_) AllReadyH.nil)
      go_simp
      go_at_call 16
      (with_reducible refine (numbersV E5 E6 _ d5 _ d6 (ghosts X T) _ rfl rfl (by omega) (At.own R5x11.out) (At.own R6x11.out)).mono ?_)
      rintro e9 X12 ⟨rfl, hb⟩
      have HB12 := Lib.hid (HB11.out.trans (hb.mono HB11.out.size))
      have R1x12 := Lib.hid (own_below R1x11.out hb)
      clear R1x11
      have R2x12 := Lib.hid (own_below R2x11.out hb)
      clear R2x11
      have R3x12 := Lib.hid (own_below R3x11.out hb)
      clear R3x11
      have R4x12 := Lib.hid (own_below R4x11.out hb)
      clear R4x11
      have R5x12 := Lib.hid (own_below R5x11.out hb)
      clear R5x11
      have R6x12 := Lib.hid (own_below R6x11.out hb)
      clear R6x11
      clear hb HB11
      go_wp2_with fail
      refine hK.out _ _ ?_ (fun hH12 => ?_)
      · exact SH.out _ HB12.out
      clear hK K
      try clear hH11
      try simp only [Act.put, List.setIfInBounds_toArray, List.set_cons_zero, List.set_cons_succ]
      refine wpAnyH_take (i := 40) (oi := Oper.mk (some 101) (Op.pick (Operand.tmp 93) (Operand.tmp 100) (Operand.const (Value.bool false))) 4 "law.go:49" #[Edge.mk 32 Ground.data, Edge.mk 39 Ground.data] none) (v := ?_) rfl (by kernel_rfl) (by kernel_rfl) (by kernel_rfl) (fun _ _ _ h => h) (Or.inl ⟨by rfl, ?_⟩) (by assumption) ?_
      rotate_left 1
      · (intro w hSw; (try dsimp only at hSw); go_simp; (try with_reducible rfl))
      try simp only [Act.put, List.setIfInBounds_toArray, List.set_cons_zero, List.set_cons_succ]
      refine wpAnyH_take (i := 41) (oi := Oper.mk (some 4) (Op.assign (Operand.tmp 101)) 4 "law.go:49" #[Edge.mk 40 Ground.data, Edge.mk 39 Ground.chain, Edge.mk 0 Ground.phase, Edge.mk 1 Ground.phase, Edge.mk 2 Ground.phase, Edge.mk 3 Ground.phase, Edge.mk 4 Ground.phase, Edge.mk 5 Ground.phase, Edge.mk 6 Ground.phase, Edge.mk 7 Ground.phase, Edge.mk 8 Ground.phase, Edge.mk 9 Ground.phase, Edge.mk 10 Ground.phase, Edge.mk 11 Ground.phase, Edge.mk 12 Ground.phase, Edge.mk 13 Ground.phase, Edge.mk 14 Ground.phase, Edge.mk 15 Ground.phase, Edge.mk 16 Ground.phase, Edge.mk 17 Ground.phase, Edge.mk 18 Ground.phase, Edge.mk 19 Ground.phase, Edge.mk 20 Ground.phase, Edge.mk 21 Ground.phase, Edge.mk 22 Ground.phase, Edge.mk 23 Ground.phase, Edge.mk 24 Ground.phase, Edge.mk 25 Ground.phase, Edge.mk 26 Ground.phase, Edge.mk 27 Ground.phase, Edge.mk 28 Ground.phase, Edge.mk 29 Ground.phase, Edge.mk 30 Ground.phase, Edge.mk 31 Ground.phase, Edge.mk 32 Ground.phase, Edge.mk 33 Ground.phase, Edge.mk 34 Ground.phase, Edge.mk 35 Ground.phase, Edge.mk 36 Ground.phase, Edge.mk 37 Ground.phase, Edge.mk 38 Ground.phase, Edge.mk 39 Ground.phase, Edge.mk 40 Ground.phase] none) (v := ?_) rfl (by kernel_rfl) (by kernel_rfl) (by kernel_rfl) (fun _ _ _ h => h) (Or.inl ⟨by rfl, ?_⟩) (by assumption) ?_
      rotate_left 1
      · (intro w hSw; (try dsimp only at hSw); go_simp; (try with_reducible rfl))
      try simp only [Act.put, List.setIfInBounds_toArray, List.set_cons_zero, List.set_cons_succ]
      refine wpAnyH_done (by kernel_rfl) ?_ _
      go_wp2_with fail
      go_ret
      exact ⟨rfl, HBU.out.trans (HB12.out.mono HBU.out.size)⟩
end Go.Proofs.Ytfapghekakdpgaa
