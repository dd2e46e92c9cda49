/- Contract of ScrimWoven. -/
import Derived.Test.YtdojalflgfacgaaSwW1
import Derived.Test.YtdojalflgfacgaaSwMath2
import Derived.Test.YtdojalflgfacgaaWeP7
import Derived.Test.YtdojalflgfacgaaWeT4
import Derived.Test.YtdojalflgfacgaaMaW6
import Derived.OpenShut
namespace Go.Proofs.Ytdojalflgfacgaa
open Go.RowKit We Ma
attribute [-go_sem] Builtin.append_
theorem llen_any (A : Option Addr) (n c : Nat) (l : List Int) (w : World) (hn : n = l.length) (hm : n ≤ 1000) (ha : At w A (iv l)) :
    Calls Try.prog 19 #[.slice A n c] w fun e w' => e = .returned (.int .i64 (Li.top (ats l) n : Int)) ∧ Below w.heap.size w w' := by
  have C := Lib.hid (of_any A n c l w hn hm ha)
  clear hn ha
  go_enter Try.func19, Try.ntmps19
  go_wp2_with fail
  refine C.out.mono ?_
  rintro e w1 ⟨v, r, rfl, hr, ho, hb⟩
  obtain ⟨A1, c1, rfl, _, _⟩ := own_slice ho
  have HR := Lib.hid hr.out.1
  have HB := Lib.hid hb
  clear hr ho hb C
  go_wp2_with fail
  go_ret
  exact ⟨by rw [HR.out]; rfl, HB.out⟩
def Ap (a b : Value) : Prop := ∀ x, a.ownBlock = some x → b.ownBlock ≠ some x
theorem Ap.symm {a b : Value} (h : Ap a b) : Ap b a := fun x h1 h2 => h x h2 h1
theorem Ap.none (a : Value) (n c : Nat) : Ap (.slice .none n c) a := fun x h => by cases h
/-- four rows of numbers, of which the first two grow -/
structure R4 (W : World) (g : Nat) (v u a p : Value) (lv lu la lp : List Int) : Prop where
  ov : W.ownsRow g 3 1 v lv.length (iv lv)
  ou : W.ownsRow g 3 1 u lu.length (iv lu)
  oa : W.ownsRow g 3 1 a la.length (iv la)
  op : W.ownsRow g 3 1 p lp.length (iv lp)
  vu : Ap v u
  va : Ap v a
  vp : Ap v p
  ua : Ap u a
  up : Ap u p
theorem iv_snoc (l : List Int) (x : Int) : iv (l ++ [x]) = iv l ++ [.int .i64 x] := by rw [iv_app]; rfl
theorem R4.pushV {W W' : World} {g : Nat} {v u a p v' : Value} {lv lu la lp : List Int} {x : Int} {o : Obj} (h : R4 W g v u a p lv lu la lp) (hown : W'.ownsRow g 3 1 v' (lv.length + 1) (iv lv ++ [.int .i64 x])) (hg : (W.alloc o).grownBy W' v.ownBlock)
    (hat : v'.ownBlock = v.ownBlock ∨ v'.ownBlock = some (W.alloc o).heap.size) : R4 W' g v' u a p (lv ++ [x]) lu la lp :=
  ⟨by rw [iv_snoc, List.length_append]; exact hown, kept_of (h.ou.alloc o) hg h.vu, kept_of (h.oa.alloc o) hg h.va, kept_of (h.op.alloc o) hg h.vp, apart_of (h.ou.alloc o) h.vu hat, apart_of (h.oa.alloc o) h.va hat, apart_of (h.op.alloc o) h.vp hat, h.ua, h.up⟩
theorem R4.pushU {W W' : World} {g : Nat} {v u a p u' : Value} {lv lu la lp : List Int} {x : Int} {o : Obj} (h : R4 W g v u a p lv lu la lp) (hown : W'.ownsRow g 3 1 u' (lu.length + 1) (iv lu ++ [.int .i64 x])) (hg : (W.alloc o).grownBy W' u.ownBlock)
    (hat : u'.ownBlock = u.ownBlock ∨ u'.ownBlock = some (W.alloc o).heap.size) : R4 W' g v u' a p lv (lu ++ [x]) la lp :=
  ⟨kept_of (h.ov.alloc o) hg h.vu.symm, by rw [iv_snoc, List.length_append]; exact hown, kept_of (h.oa.alloc o) hg h.ua, kept_of (h.op.alloc o) hg h.up, Ap.symm (apart_of (h.ov.alloc o) h.vu.symm hat), h.va, h.vp, apart_of (h.oa.alloc o) h.ua hat, apart_of (h.op.alloc o) h.up hat⟩
theorem R4.below {W W' : World} {g : Nat} {v u a p : Value} {lv lu la lp : List Int} (h : R4 W g v u a p lv lu la lp) (hb : Below W.heap.size W W') : R4 W' g v u a p lv lu la lp :=
  ⟨own_below h.ov hb, own_below h.ou hb, own_below h.oa hb, own_below h.op hb, h.vu, h.va, h.vp, h.ua, h.up⟩
theorem nil_own (W : World) (g : Nat) : W.ownsRow g 3 1 (.slice .none 0 0) ([] : List Int).length (iv []) := World.ownsRow_nil _ _ _ _
theorem ok_small {x : Int} (h : 0 ≤ x) (h2 : x ≤ 1000) : OkI x := by
  have e : IntKind.i64.wrap x = x := by rw [IntKind.wrap_i64]; omega
  unfold OkI
  rw [← e]
  exact wf_wrap .i64 x
def ka : Kd := (0, ⟨#[97]⟩)
theorem ka_ok : ∀ k ∈ [ka], OkK k := by
  intro k hk
  rw [List.mem_singleton.1 hk]
  exact ⟨by decide +kernel, by decide +kernel⟩
set_option maxHeartbeats 8000000 in
set_option maxRecDepth 100000 in
theorem scrimWoven_any (A B : Option Addr) (n c m d : Nat) (L L2 : List Kd) (w : World) (hn : n = L.length) (hm : m = L2.length) (hb : n ≤ maxLen) (hb2 : m ≤ maxLen) (ha : At w A (kc L)) (ha2 : At w B (kc L2)) (ho : ∀ k ∈ L, OkK k) (hw : ∀ k ∈ L2, OkK k) :
    Calls Try.prog 4 #[.slice A n c, .slice B m d] w fun e w' => e = .returned (.bool true) ∧ Below w.heap.size w w' := by
  have C1 := Lib.hid (fun W (hW : Below w.heap.size w W) => both_any A n c 12 L W hn hb (by omega) (ha.below hW))
  have C2 := Lib.hid (fun W (hW : Below w.heap.size w W) => both_any B m d 12 L2 W hm hb2 (by omega) (ha2.below hW))
  have OX := Lib.hid (bothK_ok L 12 ho)
  have OY := Lib.hid (bothK_ok L2 12 hw)
  have LX : Hid (min 12 n = (bothK L 12).length) := by show _ = _; rw [bothK_len, hn]
  have LY : Hid (min 12 m = (bothK L2 12).length) := by show _ = _; rw [bothK_len, hm]
  have hx1 : min 12 n ≤ 12 := by omega
  have hy1 : min 12 m ≤ 12 := by omega
  generalize bothK L 12 = X at *
  generalize bothK L2 12 = Y at *
  generalize min 12 n = N at *
  generalize min 12 m = M at *
  clear hn hm hb hb2 ha ha2 ho hw
  obtain ⟨i0, hi, hz0, hz1, hz2⟩ := info_parts infoInt
  go_enter Try.func4, Try.ntmps4
  go_wp2_with fail
  refine (C1.out _ (Below.refl _ _)).mono ?_
  rintro e w2 ⟨v5, v6, rfl, ho5, ho6, hb2⟩
  obtain ⟨A5, c5, rfl, hc5, hm5⟩ := own_slice ho5
  obtain ⟨A6, c6, rfl, hc6, hm6⟩ := own_slice ho6
  have T5 := Lib.hid (At.own ho5)
  have HB2 := Lib.hid hb2
  clear ho5 ho6 hb2
  go_wp2_with fail
  refine (C2.out _ HB2.out).mono ?_
  rintro e w3 ⟨v7, v8, rfl, ho7, ho8, hb3⟩
  obtain ⟨A7, c7, rfl, hc7, hm7⟩ := own_slice ho7
  obtain ⟨A8, c8, rfl, hc8, hm8⟩ := own_slice ho8
  have U5 := Lib.hid (T5.out.below hb3)
  have U7 := Lib.hid (At.own ho7)
  have HB3 := Lib.hid (HB2.out.trans (hb3.mono HB2.out.size))
  clear ho7 ho8 hb3 T5 C1 C2
  have D1 := Lib.hid (fun W (hW : Below w3.heap.size w3 W) => pair_any A5 A7 N c5 M c7 X Y W LX.out LY.out (by omega) (by omega) (U5.out.below hW) (U7.out.below hW) OX.out OY.out)
  have D3 := Lib.hid (fun W (hW : Below w3.heap.size w3 W) => gone_any A5 A7 N c5 M c7 X Y W LX.out LY.out (by omega) (by omega) (U5.out.below hW) (U7.out.below hW) OX.out OY.out)
  go_wp2_with fail
  refine Calls.mono (pair_any (some ⟨w3.heap.size, 0, none⟩) (some ⟨w3.heap.size + 1, 0, none⟩) 1 1 1 1 [ka] [ka] _ rfl rfl (by omega) (by omega) ?_ ?_ ka_ok ka_ok) ?_
  · exact (at_new w3 _ _ _ rfl _ rfl).alloc _
  · exact at_new (w3.alloc _) _ _ _ (by rw [size_alloc]) _ rfl
  rintro e w4 ⟨v4, rfl, ho4, hb4⟩
  obtain ⟨A4, c4, rfl, _, _⟩ := own_slice ho4
  have HB4 : Hid (Below w3.heap.size w3 w4) := ((below_alloc w3 _).alloc (by simp) _).trans (hb4.mono (by simp; omega))
  clear ho4 hb4
  go_wp2_with fail
  refine Calls.mono (merge_any (some ⟨w4.heap.size, 0, none⟩) none 1 1 0 0 [1] [] _ rfl rfl (by omega) (by omega) ?_ (At.nil _ _) (ok_list (by decide +kernel)) (fun x hx => by cases hx)) ?_
  · exact at_new w4 _ _ _ rfl _ rfl
  rintro e w5 ⟨v5', rfl, ho5, hb5⟩
  rw [show (merge (once [1]) (once [])).length = 1 by decide] at ho5
  obtain ⟨A9, c9, rfl, _, _⟩ := own_slice ho5
  have HB5 : Hid (Below w3.heap.size w3 w5) := HB4.out.trans (((below_alloc w4 _).trans (hb5.mono (by simp))).mono HB4.out.size)
  clear ho5 hb5
  go_wp2_with fail
  obtain ⟨W6, hW6⟩ : ∃ W6, W6 = (w5.alloc (.cells #[] 3)).alloc (.cells #[] 3) := ⟨_, rfl⟩
  rw [← hW6]
  generalize hg : w5.heap.size = g at *
  have R6 : Hid (R4 W6 g (.slice (some ⟨g, 0, none⟩) 0 0) (.slice (some ⟨g + 1, 0, none⟩) 0 0) (.slice none 0 0) (.slice none 0 0) (Sw.wasN 0) [] [] []) := by
    show R4 _ _ _ _ _ _ _ _ _ _
    rw [hW6]
    refine ⟨?_, ?_, nil_own _ _, nil_own _ _, ?_, (Ap.none _ 0 0).symm, (Ap.none _ 0 0).symm, (Ap.none _ 0 0).symm, (Ap.none _ 0 0).symm⟩
    · exact (own_made w5 g hg (Nat.le_refl _)).alloc _
    · exact own_made _ (g + 1) (by rw [size_alloc, hg]) (by omega)
    · intro x h1 h2
      simp only [Value.ownBlock, Option.some.injEq] at h1 h2
      omega
  have B6 : Hid (Below g w5 W6) := by show Below _ _ _; rw [hW6, ← hg]; exact (below_alloc w5 _).alloc (by simp) _
  have z6 : g ≤ W6.heap.size := by rw [hW6, size_alloc, size_alloc]; omega
  have HG := Lib.hid hg
  clear hW6 hg
  go_loopw [9, 55] (fun v i wr => ∃ k : Nat, k ≤ N ∧ i = .int .i64 k ∧ Hid (R4 wr g v (.slice (some ⟨g + 1, 0, none⟩) 0 0) (.slice none 0 0) (.slice none 0 0) (Sw.wasN k) [] [] []) ∧ Hid (Below g w5 wr) ∧ g ≤ wr.heap.size) (fun _ i _ => N - (intOf i).toNat)
  case atStart => exact ⟨0, Nat.zero_le _, rfl, R6, B6, z6⟩
  case round =>
    obtain ⟨k, hk, rfl, hR, hB, hz⟩ := hrel
    by_cases hlt : k < N
    · have hov := hR.out.ov
      rw [Sw.wasN_len] at hov
      obtain ⟨A9, c9, rfl, _, _⟩ := own_slice hov
      obtain ⟨v1, w1, hrun1, hown1, hgrow1, _, hat1⟩ := run_append_own_at (P := Try.prog) (wr.alloc (.cells #[.int .i64 k] 3)) g 22 22 3 i0 (.int .i64 0) 1 8 Try.underlying22 hi hz0 hz1 hz2 rfl (by decide) _ _ _ (hov.alloc (.cells #[.int .i64 k] 3)) ⟨wr.heap.size, 0, none⟩ 1 1 [.int .i64 k] rfl (cells_new' _ _ _ _ rfl _ rfl) (fun u hu => by rw [List.mem_singleton.1 hu]; rfl) (by unfold maxLen; omega) (by omega) (by rw [size_alloc]; omega)
      have R1 : Hid (R4 w1 g v1 (.slice (some ⟨g + 1, 0, none⟩) 0 0) (.slice none 0 0) (.slice none 0 0) (Sw.wasN (k + 1)) [] [] []) := by
        show R4 _ _ _ _ _ _ _ _ _ _
        rw [Sw.wasN_next]
        exact hR.out.pushV (o := .cells #[.int .i64 k] 3) (by rw [Sw.wasN_len]; exact hown1) hgrow1 hat1
      have B1 : Hid (Below g w5 w1) := Below.grown (hB.out.alloc hz (.cells #[.int .i64 k] 3)) hgrow1 (by rw [size_alloc]; omega) (fun q hq => own_from hov q hq)
      have z1 : g ≤ w1.heap.size := by have := hgrow1.size; rw [size_alloc] at this; omega
      clear hown1 hgrow1 hat1 hov
      go_wp2_with fail
      clear hrun1
      go_roundw
      case rel => exact ⟨k + 1, by omega, by go_num, R1, B1, z1⟩
      case measure => simp [intOf]; omega
    · obtain rfl : k = N := by omega
      have hov := hR.out.ov
      rw [Sw.wasN_len] at hov
      obtain ⟨A9, c9, rfl, _, _⟩ := own_slice hov
      clear hov R6 B6 z6
      go_wp2_with fail
      obtain ⟨W7, hW7⟩ : ∃ W7, W7 = wr.alloc (.cells #[] 3) := ⟨_, rfl⟩
      rw [← hW7]
      have B7 : Hid (Below g w5 W7) := by show Below _ _ _; rw [hW7]; exact hB.out.alloc hz _
      have B37 : Hid (Below w3.heap.size w3 W7) := HB5.out.trans (B7.out.mono (by have := HB5.out.size; have := HG.out; omega))
      have S7 : Hid (W7.ownsRow g 3 1 (.slice (some ⟨wr.heap.size, 0, none⟩) 0 0) 0 []) := by show World.ownsRow _ _ _ _ _ _ _; rw [hW7]; exact own_made wr _ rfl hz
      have R7 : Hid (R4 W7 g (.slice A9 k c9) (.slice (some ⟨g + 1, 0, none⟩) 0 0) (.slice none 0 0) (.slice none 0 0) (Sw.wasN k) [] [] []) := by show R4 _ _ _ _ _ _ _ _ _ _; rw [hW7]; exact hR.out.below (below_alloc wr _)
      have hA7 : ∀ x, (Value.slice A9 k c9).ownBlock = some x → x < wr.heap.size := fun x h => (hR.out.ov.lt x h).2
      have hg7 : g + 1 < wr.heap.size := (hR.out.ou.lt (g + 1) rfl).2
      have z7 : W7.heap.size = wr.heap.size + 1 := by rw [hW7, size_alloc]
      have HA7 := Lib.hid hA7
      have HZ7 := Lib.hid z7
      clear hW7 hA7 z7
      refine (D1.out _ B37.out).mono ?_
      rintro e w8 ⟨v8, rfl, ho8, hb8⟩
      obtain ⟨A10, c10, rfl, _, _⟩ := own_slice ho8
      have hpl : Hid (M = (pairs X Y).length) := by show _ = _; rw [pairs_len]; exact LY.out
      have R8 : Hid (R4 w8 g (.slice (some ⟨g + 1, 0, none⟩) 0 0) (.slice (some ⟨wr.heap.size, 0, none⟩) 0 0) (.slice A9 k c9) (.slice A10 M c10) (Sw.live X Y 0) (Sw.stay X Y 0) (Sw.wasN k) (pairs X Y)) := by
        have hz7 := HZ7.out
        have hfr := own_from ho8
        refine ⟨own_below R7.out.ou hb8, own_below S7.out hb8, own_below R7.out.ov hb8, ?_, ?_, R7.out.vu.symm, ?_, ?_, ?_⟩
        · rw [← hpl.out]; exact own_mono ho8 (by omega)
        · intro x h1 h2
          simp only [Value.ownBlock, Option.some.injEq] at h1 h2
          omega
        · intro x h1 h2
          have := hfr x h2
          simp only [Value.ownBlock, Option.some.injEq] at h1
          omega
        · intro x h1 h2
          have := HA7.out x h2
          simp only [Value.ownBlock, Option.some.injEq] at h1
          omega
        · intro x h1 h2
          have := hfr x h2
          simp only [Value.ownBlock, Option.some.injEq] at h1
          omega
      have B8 : Hid (Below g w5 w8) := B7.out.trans (hb8.mono (by have := HZ7.out; omega))
      have z8 : g ≤ w8.heap.size := by have := B8.out.size; have := HG.out; omega
      clear ho8 hb8 R7 S7 B7 B37 HA7 HZ7 hR hB
      generalize wr.heap.size = gs at *
      go_wp2_with fail
      go_loopw [10, 12, 68] (fun v u i wr => ∃ k2 : Nat, k2 ≤ M ∧ i = .int .i64 k2 ∧ Hid (R4 wr g v u (.slice A9 k c9) (.slice A10 M c10) (Sw.live X Y k2) (Sw.stay X Y k2) (Sw.wasN k) (pairs X Y)) ∧ Hid (Below g w5 wr) ∧ g ≤ wr.heap.size) (fun _ _ i _ => M - (intOf i).toNat)
      case atStart => exact ⟨0, Nat.zero_le _, rfl, R8, B8, z8⟩
      case round =>
        obtain ⟨k2, hk2, rfl, hR, hB, hz⟩ := hrel
        have hov := hR.out.ov
        rw [Sw.live_len] at hov
        have hou := hR.out.ou
        have hsl := Sw.stay_len (old := X) (new := Y) k2
        obtain ⟨A11, c11, rfl, _, _⟩ := own_slice hov
        obtain ⟨A12, c12, rfl, _, _⟩ := own_slice hou
        by_cases hlt : k2 < M
        · have hpa : (pairs X Y)[k2]? = some (pairF X Y k2) := by
            have h9 := pairs_at X Y k2 (by have := LY.out; omega)
            rw [List.getD_eq_getElem?_getD] at h9
            rw [List.getElem?_eq_getElem (by have := hpl.out; omega)] at h9 ⊢
            simpa using h9
          obtain ⟨b, o, rfl, _, hc⟩ := (At.own (show World.ownsRow wr g 3 1 (.slice A10 M c10) M (iv (pairs X Y)) by have h9 := hR.out.op; rw [← hpl.out] at h9; exact h9)).one (iv_get _ hpa)
          have HLV := Lib.hid (Sw.live_succ (old := X) (new := Y) k2)
          have HST : Hid (Sw.stay X Y (k2 + 1) = if pairF X Y k2 < 0 then Sw.stay X Y k2 else Sw.stay X Y k2 ++ [pairF X Y k2]) := rfl
          have hlv : Sw.liv X Y k2 = if pairF X Y k2 < 0 then 100 + (k2 : Int) else pairF X Y k2 := rfl
          obtain ⟨x, hx⟩ : ∃ x, pairF X Y k2 = x := ⟨_, rfl⟩
          rw [hx] at hc hlv HST
          by_cases hneg : x < 0
          · rw [if_pos hneg] at hlv HST
            rw [hlv] at HLV
            clear hx hlv
            obtain ⟨v1, w1, hrun1, hown1, hgrow1, _, hat1⟩ := run_append_own_at (P := Try.prog) (wr.alloc (.cells #[.int .i64 (100 + (k2 : Int))] 3)) g 22 22 3 i0 (.int .i64 0) 1 8 Try.underlying22 hi hz0 hz1 hz2 rfl (by decide) _ _ _ (hov.alloc (.cells #[.int .i64 (100 + (k2 : Int))] 3)) ⟨wr.heap.size, 0, none⟩ 1 1 [.int .i64 (100 + (k2 : Int))] rfl (cells_new' _ _ _ _ rfl _ rfl) (fun u hu => by rw [List.mem_singleton.1 hu]; rfl) (by unfold maxLen; omega) (by omega) (by rw [size_alloc]; omega)
            have R1 : Hid (R4 w1 g v1 (.slice A12 (Sw.stay X Y k2).length c12) (.slice A9 k c9) (.slice (some ⟨b, o, none⟩) M c10) (Sw.live X Y (k2 + 1)) (Sw.stay X Y (k2 + 1)) (Sw.wasN k) (pairs X Y)) := by
              show R4 _ _ _ _ _ _ _ _ _ _
              rw [HLV.out, HST.out]
              exact hR.out.pushV (o := .cells #[.int .i64 (100 + (k2 : Int))] 3) (by rw [Sw.live_len]; exact hown1) hgrow1 hat1
            have B1 : Hid (Below g w5 w1) := Below.grown (hB.out.alloc hz (.cells #[.int .i64 (100 + (k2 : Int))] 3)) hgrow1 (by rw [size_alloc]; omega) (fun q hq => own_from hov q hq)
            have z1 : g ≤ w1.heap.size := by have := hgrow1.size; rw [size_alloc] at this; omega
            clear hown1 hgrow1 hat1 hov hou
            go_wp2_with fail
            clear hrun1
            go_roundw
            case rel => exact ⟨k2 + 1, by omega, by go_num, R1, B1, z1⟩
            case measure => simp [intOf]; omega
          · rw [if_neg hneg] at hlv HST
            rw [hlv] at HLV
            clear hx hlv
            obtain ⟨v1, w1, hrun1, hown1, hgrow1, _, hat1⟩ := run_append_own_at (P := Try.prog) (wr.alloc (.cells #[.int .i64 x] 3)) g 22 22 3 i0 (.int .i64 0) 1 8 Try.underlying22 hi hz0 hz1 hz2 rfl (by decide) _ _ _ (hov.alloc (.cells #[.int .i64 x] 3)) ⟨wr.heap.size, 0, none⟩ 1 1 [.int .i64 x] rfl (cells_new' _ _ _ _ rfl _ rfl) (fun u hu => by rw [List.mem_singleton.1 hu]; rfl) (by unfold maxLen; omega) (by omega) (by rw [size_alloc]; omega)
            have R1 := Lib.hid (hR.out.pushV (o := .cells #[.int .i64 x] 3) (by rw [Sw.live_len]; exact hown1) hgrow1 hat1)
            have B1 : Hid (Below g w5 w1) := Below.grown (hB.out.alloc hz (.cells #[.int .i64 x] 3)) hgrow1 (by rw [size_alloc]; omega) (fun q hq => own_from hov q hq)
            have z1 : g ≤ w1.heap.size := by have := hgrow1.size; rw [size_alloc] at this; omega
            have hou1 := R1.out.ou
            clear hown1 hgrow1 hat1 hov hou
            obtain ⟨v2, w2', hrun2, hown2, hgrow2, _, hat2⟩ := run_append_own_at (P := Try.prog) (w1.alloc (.cells #[.int .i64 x] 3)) g 22 22 3 i0 (.int .i64 0) 1 8 Try.underlying22 hi hz0 hz1 hz2 rfl (by decide) _ _ _ (hou1.alloc (.cells #[.int .i64 x] 3)) ⟨w1.heap.size, 0, none⟩ 1 1 [.int .i64 x] rfl (cells_new' _ _ _ _ rfl _ rfl) (fun u hu => by rw [List.mem_singleton.1 hu]; rfl) (by unfold maxLen; omega) (by omega) (by rw [size_alloc]; omega)
            have R2 : Hid (R4 w2' g v1 v2 (.slice A9 k c9) (.slice (some ⟨b, o, none⟩) M c10) (Sw.live X Y (k2 + 1)) (Sw.stay X Y (k2 + 1)) (Sw.wasN k) (pairs X Y)) := by
              show R4 _ _ _ _ _ _ _ _ _ _
              rw [HLV.out, HST.out]
              exact R1.out.pushU (o := .cells #[.int .i64 x] 3) hown2 hgrow2 hat2
            have B2 : Hid (Below g w5 w2') := Below.grown (B1.out.alloc z1 (.cells #[.int .i64 x] 3)) hgrow2 (by rw [size_alloc]; omega) (fun q hq => own_from hou1 q hq)
            have z2 : g ≤ w2'.heap.size := by have := hgrow2.size; rw [size_alloc] at this; omega
            clear hown2 hgrow2 hat2 hou1
            go_wp2_with fail
            clear hrun1 hrun2
            go_roundw
            case rel => exact ⟨k2 + 1, by omega, by go_num, R2, B2, z2⟩
            case measure => simp [intOf]; omega
        · obtain rfl : M = k2 := by omega
          have TV := Lib.hid (At.own hov)
          have TU := Lib.hid (At.own hou)
          have TA : Hid (At wr A9 (iv (Sw.wasN k))) := by have h9 := hR.out.oa; rw [Sw.wasN_len] at h9; exact At.own h9
          have B5R : Hid (Below w3.heap.size w3 wr) := HB5.out.trans (hB.out.mono (by have := HB5.out.size; have := HG.out; omega))
          clear hov hou hR R8 B8 z8
          have hkx : k = X.length := LX.out
          have hmy : M = Y.length := LY.out
          have hX12 : X.length ≤ 12 := by omega
          obtain ⟨TO, hTO⟩ : ∃ TO, TO = merge (Sw.wasN k) (Sw.live X Y M) := ⟨_, rfl⟩
          have hnd : TO.Nodup := by rw [hTO]; exact Sw.merge_nodup (Sw.live_nodup hX12 _ (by omega))
          have hnw : (Sw.wasN k).Nodup := Sw.wasN_nodup k
          have hwo : ∀ x ∈ Sw.wasN k, OkI x := fun x hx => by
            obtain ⟨j, hj, rfl⟩ := Sw.wasN_mem.1 hx
            exact ok_small (by omega) (by omega)
          have hlo : ∀ x ∈ Sw.live X Y M, OkI x := fun x hx => by
            have := Sw.live_ok hX12 (by omega) hx
            exact ok_small (by omega) (by omega)
          have hto : ∀ x ∈ TO, OkI x := fun x hx => by
            rw [hTO] at hx
            rcases Sw.merge_mem.1 hx with h | h
            · exact hlo x h
            · exact hwo x h
          have hlen : TO.length + (Sw.stay X Y M).length = k + M := by
            have h9 := Sw.to_len (old := X) (new := Y) hX12
            rw [hTO, hkx, hmy]; exact h9
          have hgl : (goneTo X Y k).length + (Sw.stay X Y M).length = k := by
            have h9 := Sw.gone_len (old := X) (new := Y) hX12
            rw [hmy]; rw [← hkx] at h9; exact h9
          have hpc : TO.filter (fun x => decide (x < 100)) = comm (Sw.wasN k) TO := by
            have h9 := Sw.places_is (old := X) (new := Y) hX12
            rw [hTO, hkx, hmy]; exact h9
          have hbh : ∀ g : Nat, g < k → ¬ (g : Int) ∈ Sw.live X Y M → ∃ pre gs post, TO = pre ++ gs ++ (g : Int) :: post ∧ (∀ x ∈ gs, x ∈ (goneTo X Y k).map (fun (k : Nat) => (k : Int)) ∧ x < (g : Int)) ∧
              ((pre = [] ∧ Sw.nearTo (Sw.stay X Y M) g < 0) ∨ ∃ p, pre = p ++ [Sw.nearTo (Sw.stay X Y M) g] ∧ ¬ Sw.nearTo (Sw.stay X Y M) g ∈ (goneTo X Y k).map (fun (k : Nat) => (k : Int))) := fun g hg hm => by
            rw [hkx] at hg
            rw [hmy] at hm
            have h9 := Sw.behind_has (old := X) (new := Y) hX12 hg hm
            rw [hTO, hkx, hmy]; exact h9
          have hgm : ∀ j ∈ goneTo X Y k, j < k ∧ ¬ (j : Int) ∈ Sw.live X Y M := fun j hj => by
            have h9 := (Sw.gone_mem (old := X) (new := Y) hX12 (x := (j : Int))).1 (by rw [← hkx]; exact List.mem_map.2 ⟨j, hj, rfl⟩)
            obtain ⟨⟨q, hq1, hq2⟩, h10⟩ := h9
            exact ⟨by omega, by rw [hmy]; exact h10⟩
          have CM := merge_any A9 A11 k c9 M c11 (Sw.wasN k) (Sw.live X Y M) wr (Sw.wasN_len k).symm (Sw.live_len M).symm (by omega) (by omega) TA.out TV.out hwo hlo
          rw [once_of_nodup hnw, once_of_nodup (Sw.live_nodup hX12 M (by omega)), ← hTO] at CM
          have HCM := Lib.hid CM
          have HBH := Lib.hid hbh
          have HGM := Lib.hid hgm
          have HPC := Lib.hid hpc
          have HGL := Lib.hid hgl
          have HLN := Lib.hid hlen
          have HTOK := Lib.hid hto
          have HWOK := Lib.hid hwo
          have HND := Lib.hid hnd
          have HNW := Lib.hid hnw
          have hT24 : TO.length ≤ 24 := by omega
          clear hTO hnd hnw hwo hlo hto hlen hgl hpc hbh hgm CM hkx hmy hX12
          go_wp2_with fail
          refine HCM.out.mono ?_
          rintro e w9 ⟨v9, rfl, ho9, hb9⟩
          obtain ⟨A13, c13, rfl, _, _⟩ := own_slice ho9
          have TT := Lib.hid (At.own ho9)
          have UA := Lib.hid (TA.out.below hb9)
          have UU := Lib.hid (TU.out.below hb9)
          have B9 : Hid (Below w3.heap.size w3 w9) := B5R.out.trans (hb9.mono B5R.out.size)
          clear ho9 hb9 HCM TV TA TU
          go_wp2_with fail
          obtain ⟨r, hr⟩ := Li.row_ex (ats (olds (Sw.wasN k) TO)) (comm (Sw.wasN k) TO).length
          have hRI := rises_of hr
          have hsa : ∀ x ∈ stayIds (Sw.wasN k) TO r, x ∈ Sw.wasN k := fun x hx => (comm_mem.1 (stay_comm hRI x hx)).2
          have hsb : ∀ x ∈ stayIds (Sw.wasN k) TO r, x ∈ TO := fun x hx => (comm_mem.1 (stay_comm hRI x hx)).1
          have hAP := appD_steps HNW.out HND.out hRI hsa
          have hSL := count_all HNW.out HND.out hRI hsa hsb
          have hMV := count_moves HND.out hRI hsa (fun x hx => stay_comm hRI x hx)
          have hRT : r.length = Li.top (ats (comm (Sw.wasN k) TO)) (comm (Sw.wasN k) TO).length := by
            have h9 := hr.1
            rw [Sw.olds_is] at h9
            exact h9
          have CS := steps_any A9 A13 k c9 TO.length c13 (Sw.wasN k) TO (Sw.wasN k) TO r w9 (Sw.wasN_len k).symm rfl (by omega) (by omega) UA.out TT.out HWOK.out HTOK.out (once_of_nodup HNW.out).symm (once_of_nodup HND.out).symm hr
          rw [Sw.wasN_len] at hSL
          have hS40 : (steps (Sw.wasN k) TO (stayIds (Sw.wasN k) TO r)).length ≤ 40 := by omega
          rw [hRT] at hMV
          have HCS := Lib.hid CS
          have HAP := Lib.hid hAP
          have HMV := Lib.hid hMV
          clear CS hr hRI hsa hsb hAP hSL hMV hRT
          generalize steps (Sw.wasN k) TO (stayIds (Sw.wasN k) TO r) = SS at *
          refine HCS.out.mono ?_
          rintro e w10 ⟨v10, rfl, ho10, hb10⟩
          obtain ⟨A14, c14, rfl, _, _⟩ := own_slice ho10
          have TS := Lib.hid (At.own ho10)
          have VA := Lib.hid (UA.out.below hb10)
          have VU := Lib.hid (UU.out.below hb10)
          have VT := Lib.hid (TT.out.below hb10)
          have B10 : Hid (Below w3.heap.size w3 w10) := B9.out.trans (hb10.mono B9.out.size)
          clear ho10 hb10 HCS UA UU TT
          have CA := apply_any A9 A14 k c9 SS.length c14 (Sw.wasN k) SS w10 (Sw.wasN_len k).symm rfl (by omega) (by omega) VA.out TS.out HWOK.out
          rw [once_of_nodup HNW.out, HAP.out] at CA
          have HCA := Lib.hid CA
          clear CA
          go_wp2_with fail
          refine HCA.out.mono ?_
          rintro e w11 ⟨v11, ok11, rfl, ⟨rfl, ho11⟩, hb11⟩
          obtain ⟨A15, c15, rfl, _, _⟩ := own_slice ho11
          have XG := Lib.hid (At.own ho11)
          have XS := Lib.hid (TS.out.below hb11)
          have XU := Lib.hid (VU.out.below hb11)
          have XT := Lib.hid (VT.out.below hb11)
          have B11 : Hid (Below w3.heap.size w3 w11) := B10.out.trans (hb11.mono B10.out.size)
          clear ho11 hb11 HCA VA VU VT TS
          have CN := Lib.hid (numbersI_any A15 A13 TO.length c15 TO.length c13 TO TO w11 rfl rfl (by omega) (by omega) XG.out XT.out)
          obtain ⟨T, hT⟩ : ∃ T, T = TO.length := ⟨_, rfl⟩
          obtain ⟨s, hs⟩ : ∃ s, s = (Sw.stay X Y M).length := ⟨_, rfl⟩
          have hlen := HLN.out
          rw [← hT, ← hs] at hlen
          rw [← hT] at CN hT24
          rw [← hT, ← hs]
          have HT := Lib.hid hT
          have HS := Lib.hid hs
          have hl1 : IntKind.i64.wrap ((k : Int) + (M : Int)) = (k : Int) + (M : Int) := by rw [IntKind.wrap_i64]; omega
          have hl2 : IntKind.i64.wrap ((k : Int) + (M : Int) - (s : Int)) = (T : Int) := by rw [IntKind.wrap_i64]; omega
          have hl3 : ((T : Int) == (T : Int)) = true := by simp
          have hs12 : s ≤ k + M := by omega
          clear hT hs hlen
          go_wp2_with fail
          refine CN.out.mono ?_
          rintro e w12 ⟨rfl, q12, rfl⟩
          simp only [decide_true]
          have B12 := Lib.hid (drewN_below B11.out q12)
          have YS := Lib.hid (XS.out.drewN q12)
          have YU := Lib.hid (XU.out.drewN q12)
          have YT := Lib.hid (XT.out.drewN q12)
          clear CN XG XS XU XT
          generalize w11.drewN q12 = w13 at *
          have YX : Hid (At w13 A6 []) := At.nil _ _
          go_wp2_with fail
          generalize hgp : w13.heap.size = gp at *
          obtain ⟨W14, hW14⟩ : ∃ W14, W14 = w13.alloc (.cells #[] 3) := ⟨_, rfl⟩
          rw [← hW14]
          have P0 : Hid (W14.ownsRow gp 3 1 (.slice (some ⟨gp, 0, none⟩) 0 0) ((TO.take 0).filter (fun x => decide (x < 100))).length (iv ((TO.take 0).filter (fun x => decide (x < 100))))) := by show World.ownsRow _ _ _ _ _ _ _; rw [hW14]; exact own_made w13 gp hgp (Nat.le_refl _)
          have BP0 : Hid (Below gp w13 W14) := by show Below _ _ _; rw [hW14, ← hgp]; exact below_alloc _ _
          have zp0 : gp ≤ W14.heap.size := by rw [hW14, size_alloc]; omega
          have HGP := Lib.hid hgp
          clear hW14 hgp
          go_loopw [19, 125] (fun v i wr => ∃ k3 : Nat, k3 ≤ T ∧ i = .int .i64 k3 ∧ Hid (wr.ownsRow gp 3 1 v ((TO.take k3).filter (fun x => decide (x < 100))).length (iv ((TO.take k3).filter (fun x => decide (x < 100))))) ∧ Hid (Below gp w13 wr) ∧ gp ≤ wr.heap.size) (fun _ i _ => T - (intOf i).toNat)
          case atStart => exact ⟨0, Nat.zero_le _, rfl, P0, BP0, zp0⟩
          case round =>
            obtain ⟨k3, hk3, rfl, hO, hB3, hz3⟩ := hrel
            obtain ⟨A16, c16, rfl, _, _⟩ := own_slice hO.out
            by_cases hlt3 : k3 < T
            · have hkT : k3 < TO.length := by have := HT.out; omega
              obtain ⟨b3, o3, rfl, hbb3, hc3⟩ := YT.out.one (iv_get _ (List.getElem?_eq_getElem hkT))
              have hd3 := (hB3.out.cell (p := ⟨b3, o3 + k3, none⟩) (by have := HGP.out; show b3 < _; omega)).trans hc3
              have hfl : ((TO.take k3).filter (fun x => decide (x < 100))).length ≤ k3 := Nat.le_trans (List.length_filter_le _ _) (by simp; omega)
              have HNX : Hid ((TO.take (k3 + 1)).filter (fun x => decide (x < 100)) = (TO.take k3).filter (fun x => decide (x < 100)) ++ [TO[k3]].filter (fun x => decide (x < 100))) := by show _ = _; rw [List.take_succ_eq_append_getElem hkT, List.filter_append]
              clear hc3
              generalize TO[k3] = y at *
              by_cases hy : y < 100
              · have hf1 : [y].filter (fun x => decide (x < 100)) = [y] := by simp [hy]
                rw [hf1] at HNX
                have hov := hO.out
                obtain ⟨v5, w5', hrun5, hown5, hgrow5, _, hat5⟩ := run_append_own_at (P := Try.prog) (wr.alloc (.cells #[.int .i64 y] 3)) gp 22 22 3 i0 (.int .i64 0) 1 8 Try.underlying22 hi hz0 hz1 hz2 rfl (by decide) _ _ _ (hov.alloc (.cells #[.int .i64 y] 3)) ⟨wr.heap.size, 0, none⟩ 1 1 [.int .i64 y] rfl (cells_new' _ _ _ _ rfl _ rfl) (fun u hu => by rw [List.mem_singleton.1 hu]; rfl) (by unfold maxLen; omega) (by omega) (by rw [size_alloc]; omega)
                have O5 := Lib.hid (show w5'.ownsRow gp 3 1 v5 ((TO.take (k3 + 1)).filter (fun x => decide (x < 100))).length (iv ((TO.take (k3 + 1)).filter (fun x => decide (x < 100)))) by rw [HNX.out, List.length_append, iv_snoc]; exact hown5)
                have B5' : Hid (Below gp w13 w5') := Below.grown (hB3.out.alloc hz3 (.cells #[.int .i64 y] 3)) hgrow5 (by rw [size_alloc]; omega) (fun q hq => own_from hov q hq)
                have z5' : gp ≤ w5'.heap.size := by have := hgrow5.size; rw [size_alloc] at this; omega
                clear hown5 hgrow5 hat5 hov hf1
                go_wp2_with fail
                clear hrun5
                go_roundw
                case rel => exact ⟨k3 + 1, by omega, by go_num, O5, B5', z5'⟩
                case measure => simp [intOf]; omega
              · have hf1 : [y].filter (fun x => decide (x < 100)) = [] := by simp [hy]
                rw [hf1, List.append_nil] at HNX
                clear hf1
                go_wp2_with fail
                go_roundw
                case rel => exact ⟨k3 + 1, by omega, by go_num, by show World.ownsRow _ _ _ _ _ _ _; rw [HNX.out]; exact hO.out, hB3, hz3⟩
                case measure => simp [intOf]; omega
            · obtain rfl : T = k3 := by omega
              have htk : TO.take T = TO := List.take_of_length_le (by have := HT.out; omega)
              rw [htk, HPC.out] at hO ⊢
              have hBw : Below w13.heap.size w13 wr := by rw [HGP.out]; exact hB3.out
              have ZP := Lib.hid (At.own hO.out)
              have ZS := Lib.hid (YS.out.below hBw)
              have ZU := Lib.hid (YU.out.below hBw)
              have ZT := Lib.hid (YT.out.below hBw)
              have BZ : Hid (Below w3.heap.size w3 wr) := B12.out.trans (hBw.mono B12.out.size)
              have hcl : (comm (Sw.wasN k) TO).length ≤ 24 := by
                rw [← HPC.out]
                exact Nat.le_trans (List.length_filter_le _ _) (by have := HT.out; omega)
              clear htk hBw hO P0 BP0 zp0 YS YU YT hB3
              go_wp2_with fail
              refine (D3.out _ BZ.out).mono ?_
              rintro e w15 ⟨v15, rfl, ho15, hb15⟩
              obtain ⟨A17, c17, rfl, _, _⟩ := own_slice ho15
              have QG := Lib.hid (At.own ho15)
              have QP := Lib.hid (ZP.out.below hb15)
              have QS := Lib.hid (ZS.out.below hb15)
              have QU := Lib.hid (ZU.out.below hb15)
              have QT := Lib.hid (ZT.out.below hb15)
              have BQ : Hid (Below w3.heap.size w3 w15) := BZ.out.trans (hb15.mono BZ.out.size)
              clear ho15 hb15 ZP ZS ZU ZT
              have QG' : Hid (At w15 A17 (iv ((goneTo X Y k).map fun (k : Nat) => (k : Int)))) := by show At _ _ _; rw [← nv_iv]; exact QG.out
              have hgl := HGL.out
              rw [← HS.out] at hgl
              obtain ⟨L4, hL4⟩ : ∃ L4, L4 = (goneTo X Y k).length := ⟨_, rfl⟩
              rw [← hL4] at hgl ⊢
              have HL4 := Lib.hid hL4
              have HGL' := Lib.hid hgl
              have hL12 : L4 ≤ 12 := by omega
              clear hL4 hgl QG HGL
              go_wp2_with fail
              go_loopw [141] (fun i wr => ∃ k4 : Nat, k4 ≤ L4 ∧ i = .int .i64 k4 ∧ wr = w15) (fun i _ => L4 - (intOf i).toNat)
              case atStart => exact ⟨0, Nat.zero_le _, rfl, rfl⟩
              case round =>
                obtain ⟨k4, hk4, rfl, rfl⟩ := hrel
                by_cases hlt4 : k4 < L4
                · have hkG : k4 < (goneTo X Y k).length := by have := HL4.out; omega
                  have hga : ((goneTo X Y k).map fun (k : Nat) => (k : Int))[k4]? = some (((goneTo X Y k)[k4] : Nat) : Int) := by rw [List.getElem?_map, List.getElem?_eq_getElem hkG]; rfl
                  obtain ⟨b4, o4, rfl, _, hc4⟩ := QG'.out.one (iv_get _ hga)
                  obtain ⟨hj1, hj2⟩ := HGM.out _ (List.getElem_mem hkG)
                  obtain ⟨pre, gs, post, hb1, hb2, hb3⟩ := HBH.out _ hj1 hj2
                  clear hga
                  generalize (goneTo X Y k)[k4] = jv at *
                  have HBE := Lib.hid (behind_any A13 (some ⟨b4, o4, none⟩) T c13 L4 c17 TO ((goneTo X Y k).map fun (k : Nat) => (k : Int)) pre gs post (jv : Int) (Sw.nearTo (Sw.stay X Y M) jv) wr HT.out (by rw [List.length_map]; exact HL4.out) (by omega) (by omega) QT.out QG'.out hb1 HND.out hb2 hb3)
                  clear hb1 hb2 hb3 hj1 hj2
                  go_wp2_with fail
                  go_loopw [25, 147] (fun a i w' => ∃ k5 : Nat, k5 ≤ s ∧ i = .int .i64 k5 ∧ a = .int .i64 (Sw.nearTo ((Sw.stay X Y M).take k5) jv) ∧ w' = wr) (fun _ i _ => s - (intOf i).toNat)
                  case atStart => exact ⟨0, Nat.zero_le _, rfl, rfl, rfl⟩
                  case round =>
                    obtain ⟨k5, hk5, rfl, rfl, rfl⟩ := hrel
                    by_cases hlt5 : k5 < s
                    · have hkS : k5 < (Sw.stay X Y M).length := by have := HS.out; omega
                      obtain ⟨b5, o5, rfl, _, hc5⟩ := QU.out.one (iv_get _ (List.getElem?_eq_getElem hkS))
                      have hns : Sw.nearTo ((Sw.stay X Y M).take (k5 + 1)) jv = if (Sw.stay X Y M)[k5] < (jv : Int) ∧ (Sw.stay X Y M)[k5] > Sw.nearTo ((Sw.stay X Y M).take k5) jv then (Sw.stay X Y M)[k5] else Sw.nearTo ((Sw.stay X Y M).take k5) jv := by rw [List.take_succ_eq_append_getElem hkS]; exact Sw.near_step _ _ _
                      generalize (Sw.stay X Y M)[k5] = x at *
                      obtain ⟨nr, hnr⟩ : ∃ nr, Sw.nearTo ((Sw.stay X Y M).take k5) jv = nr := ⟨_, rfl⟩
                      rw [hnr] at hns ⊢
                      clear hnr
                      by_cases h1 : x < (jv : Int)
                      · by_cases h2 : x > nr
                        · rw [if_pos ⟨h1, h2⟩] at hns
                          have HNS := Lib.hid hns
                          clear hns
                          go_wp2_with fail
                          go_roundw
                          case rel => exact ⟨k5 + 1, by omega, by go_num, by rw [HNS.out], trivial⟩
                          case measure => simp [intOf]; omega
                        · rw [if_neg (fun h => h2 h.2)] at hns
                          have HNS := Lib.hid hns
                          clear hns
                          go_wp2_with fail
                          go_roundw
                          case rel => exact ⟨k5 + 1, by omega, by go_num, by rw [HNS.out], trivial⟩
                          case measure => simp [intOf]; omega
                      · rw [if_neg (fun h => h1 h.1)] at hns
                        have HNS := Lib.hid hns
                        clear hns
                        go_wp2_with fail
                        go_roundw
                        case rel => exact ⟨k5 + 1, by omega, by go_num, by rw [HNS.out], trivial⟩
                        case measure => simp [intOf]; omega
                    · obtain rfl : s = k5 := by omega
                      have htk : (Sw.stay X Y M).take s = Sw.stay X Y M := List.take_of_length_le (by have := HS.out; omega)
                      rw [htk]
                      clear htk
                      generalize Sw.nearTo (Sw.stay X Y M) (jv : Int) = nr at *
                      go_wp2_with fail
                      refine HBE.out.mono ?_
                      rintro e w9' ⟨rfl, rfl⟩
                      go_wp2_with fail
                      go_roundw
                      case rel => exact ⟨k4 + 1, by omega, by go_num, trivial⟩
                      case measure => simp [intOf]; omega
                · obtain rfl : L4 = k4 := by omega
                  have hSS : SS.length ≤ 100000 := by omega
                  have HM1 := Lib.hid (moves_any A14 SS.length c14 SS wr rfl hSS QS.out)
                  obtain ⟨p, hp⟩ : ∃ p, p = (comm (Sw.wasN k) TO).length := ⟨_, rfl⟩
                  have HL1 := Lib.hid (fun W (hW : Below wr.heap.size wr W) => rlen_any A16 p c16 (comm (Sw.wasN k) TO) W hp (by omega) (QP.out.below hW))
                  have HL2 := Lib.hid (fun W (hW : Below wr.heap.size wr W) => llen_any A16 p c16 (comm (Sw.wasN k) TO) W hp (by omega) (QP.out.below hW))
                  have hmv := HMV.out
                  rw [← hp] at hmv hcl ⊢
                  generalize mvs SS = mv at *
                  generalize Li.top (ats (comm (Sw.wasN k) TO)) p = tp at *
                  have hq1 : IntKind.i64.wrap ((p : Int) - (tp : Int)) = (mv : Int) := by rw [IntKind.wrap_i64]; omega
                  have hq2 : IntKind.i64.wrap ((k : Int) - (s : Int)) = (L4 : Int) := by rw [IntKind.wrap_i64]; have := HGL'.out; omega
                  have e1 : ((mv : Int) == (mv : Int)) = true := by simp
                  have e2 : ((tp : Int) == (tp : Int)) = true := by simp
                  have e3 : ((L4 : Int) == (L4 : Int)) = true := by simp
                  clear hmv hp
                  go_wp2_with fail
                  refine HM1.out.mono ?_
                  rintro e u1 ⟨rfl, hu1⟩
                  have X1 := Lib.hid hu1
                  clear hu1
                  go_wp2_with fail
                  refine (HL1.out u1 X1.out).mono ?_
                  rintro e u2 ⟨rfl, hu2⟩
                  have X2 := Lib.hid (X1.out.trans (hu2.mono X1.out.size))
                  clear hu2
                  go_wp2_with fail
                  refine (HL2.out u2 X2.out).mono ?_
                  rintro e u3 ⟨rfl, hu3⟩
                  have X3 := Lib.hid (X2.out.trans (hu3.mono X2.out.size))
                  clear hu3
                  go_wp2_with fail
                  refine (HL1.out u3 X3.out).mono ?_
                  rintro e u4 ⟨rfl, hu4⟩
                  have X4 := Lib.hid (X3.out.trans (hu4.mono X3.out.size))
                  clear hu4
                  go_wp2_with fail
                  go_ret
                  exact ⟨rfl, HB3.out.trans ((BQ.out.trans (X4.out.mono BQ.out.size)).mono HB3.out.size)⟩
end Go.Proofs.Ytdojalflgfacgaa
