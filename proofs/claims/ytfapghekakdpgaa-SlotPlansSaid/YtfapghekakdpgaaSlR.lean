/- Slot's Next; the document's ghost, Current, Next; own. -/
import Derived.Test.YtfapghekakdpgaaSlW5
import Derived.Test.YtfapghekakdpgaaGrR
namespace Go.Proofs.Ytfapghekakdpgaa
open Go.RowKit Gr Go.Maps Sl
open M (cutS)
set_option linter.unusedVariables false
set_option linter.unusedSimpArgs false
theorem rghost_any (s : ByteArray) (k : Int) (w : World) : Calls Try.prog 53 #[.agg #[.string s, .int .i64 k]] w fun e w' => e = .returned (.bool (ghI k)) ∧ Below w.heap.size w w' := by
  unfold ghI
  by_cases h4 : k = 4
  · subst h4
    go_enter Try.func53, Try.ntmps53
    go_wp2
    go_ret
    exact ⟨ret_bool' (by simp), below_alloc _ _⟩
  · by_cases h5 : k = 5
    · subst h5
      go_enter Try.func53, Try.ntmps53
      go_wp2
      go_ret
      exact ⟨ret_bool' (by simp), below_alloc _ _⟩
    · by_cases h6 : k = 6
      · subst h6
        go_enter Try.func53, Try.ntmps53
        go_wp2
        go_ret
        exact ⟨ret_bool' (by simp), below_alloc _ _⟩
      · have e4 : (k == 4) = false := by simpa using h4
        have e5 : (k == 5) = false := by simpa using h5
        have e6 : (k == 6) = false := by simpa using h6
        rw [decide_eq_false h4, decide_eq_false h5, decide_eq_false h6]
        clear h4 h5 h6
        go_enter Try.func53, Try.ntmps53
        go_wp2
        go_ret
        exact ⟨ret_bool' (by simp), below_alloc _ _⟩
namespace Sl
def oI2 : Option Nat → Int
  | none => -2
  | some j => (j : Int)
def rnL (L : List Sk) (k : Nat) : List Nat := wh k (nextQ L)
/-- does the current one wait, and is no ghost among the first k? -/
def rnB (L : List Sk) (b : Bool) (k : Nat) : Bool := b && !(fi (fun i => ghI (sk L i).2) k).isSome
theorem rnB_next (L : List Sk) (b : Bool) (k : Nat) : rnB L b (k + 1) = if ghI (sk L k).2 = true then false else rnB L b k := by
  unfold rnB
  show (b && !((fi (fun i => ghI (sk L i).2) k).or (if ghI (sk L k).2 = true then some k else none)).isSome) = _
  by_cases h : ghI (sk L k).2 = true
  · rw [if_pos h, if_pos h]; cases fi (fun i => ghI (sk L i).2) k <;> simp
  · rw [if_neg h, if_neg h]; cases fi (fun i => ghI (sk L i).2) k <;> simp
end Sl
set_option maxHeartbeats 1000000 in
theorem rcurrent_any (A : Option Addr) (n c : Nat) (L : List Sk) (w : World) (hn : n = L.length) (hm : n ≤ 100000) (ha : At w A (scs L)) :
    Calls Try.prog 32 #[.slice A n c] w fun e w' => e = .returned (.int .i64 (oI2 (cur L))) ∧ Below w.heap.size w w' := by
  have HN := Lib.hid hn
  have HA := Lib.hid ha
  clear hn ha
  go_enter Try.func32, Try.ntmps32
  go_wp2
  go_loopw [7] (fun i wr => ∃ k : Nat, k ≤ n ∧ i = .int .i64 k ∧ Hid (∀ j, j < k → curQ L j = false) ∧ Hid (Below w.heap.size w wr)) (fun i _ => n - (intOf i).toNat)
  case atStart => exact ⟨0, Nat.zero_le _, rfl, Lib.hid (fun j h => absurd h (Nat.not_lt_zero _)), Below.refl _ _⟩
  case round =>
    obtain ⟨k, hk, rfl, hno, hbel⟩ := hrel
    by_cases hlt : k < n
    · have hk' : k < L.length := by have := HN.out; omega
      obtain ⟨b1, o1, rfl, hb1, hc0, hc1⟩ := at_sk HA.out hk'
      have hd0 := ((below_cells hbel.out).1 b1 (o1 + k * 2) hb1).trans hc0
      have hd1 := ((below_cells hbel.out).1 b1 (o1 + k * 2 + 1) hb1).trans hc1
      have hq : curQ L k = !ghI (sk L k).2 := rfl
      generalize (sk L k).1 = s at *
      generalize (sk L k).2 = z at *
      have hwr := hbel.out.size
      obtain ⟨W3, hW3⟩ : ∃ W, W = wr.alloc (.cells #[.string s, .int .i64 z] 63) := ⟨_, rfl⟩
      have K3 : Blk W3 wr.heap.size 63 #[.string s, .int .i64 z] := by rw [hW3]; exact Blk.new wr _ _
      have q0 := K3.cell 0 (v := .string s) rfl
      have q1 := K3.cell 1 (v := .int .i64 z) rfl
      have HB3 := Lib.hid (show Below w.heap.size w W3 by rw [hW3]; exact hbel.out.alloc hwr _)
      have CK := Lib.hid (rghost_any s z W3)
      have HW3 := Lib.hid hW3
      obtain ⟨b, hb⟩ : ∃ b, b = ghI z := ⟨_, rfl⟩
      rw [← hb] at CK hq
      have HBQ := Lib.hid hq
      clear hc0 hc1 hb hq hW3 K3 hbel
      go_upto_region 4 with fail
      rw [← HW3.out]
      go_wp2_with fail
      refine CK.out.mono ?_
      rintro e w6 ⟨rfl, hb6⟩
      have HB6 := Lib.hid (HB3.out.trans (hb6.mono HB3.out.size))
      clear hb6 CK
      cases b with
      | false =>
        have HF : Hid (oI2 (cur L) = (k : Int)) := by show _ = _; unfold cur; rw [fi_is hk' HBQ.out hno.out]; rfl
        go_wp2
        go_ret
        exact ⟨by rw [HF.out]; rfl, HB6.out⟩
      | true =>
        go_wp2
        go_roundw
        case rel => exact ⟨k + 1, by omega, by go_num, Lib.hid (fun j hj => by
          by_cases e : j = k
          · subst e; exact HBQ.out
          · exact hno.out j (by omega)), HB6⟩
        case measure => simp [intOf]; omega
    · obtain rfl : n = k := by omega
      have HF : Hid (oI2 (cur L) = -2) := by show _ = _; unfold cur; rw [← HN.out, fi_no hno.out]; rfl
      go_wp2
      go_ret
      exact ⟨by rw [HF.out]; rfl, hbel.out⟩
set_option maxHeartbeats 4000000 in
set_option maxRecDepth 100000 in
theorem rnext_any (A : Option Addr) (n c : Nat) (L : List Sk) (w : World) (hn : n = L.length) (hm : n ≤ 1000) (ha : At w A (scs L)) :
    Calls Try.prog 29 #[.slice A n c] w fun e w' => ∃ v, e = .returned (.tuple #[v, .bool (nextB L)]) ∧ w'.ownsRow w.heap.size 3 1 v (nextL L).length (nv (nextL L)) ∧ Below w.heap.size w w' := by
  have HN := Lib.hid hn
  have HA := Lib.hid ha
  have C1 := Lib.hid (rcurrent_any A n c L w hn (by omega) ha)
  obtain ⟨i0, hi, hz0, hz1, hz2⟩ := info_parts infoInt
  obtain hcur | ⟨a, hcur⟩ : cur L = none ∨ ∃ a, cur L = some a := by
    cases cur L with
    | none => exact .inl rfl
    | some a => exact .inr ⟨a, rfl⟩
  · have HX1 : Hid (nextL L = rnL L n) := by show _ = _; unfold nextL rnL; rw [hcur, hn]
    have HX2 : Hid (nextB L = rnB L false n) := by show _ = _; unfold nextB rnB; rw [hcur]; rfl
    rw [hcur, show oI2 none = -2 from rfl] at C1
    clear hn ha hcur
    go_enter Try.func29, Try.ntmps29
    go_wp2_with fail
    refine C1.out.mono ?_
    rintro e w1 ⟨rfl, hb1⟩
    have HOW : Hid ((w1.alloc (.cells #[] 3)).ownsRow w.heap.size 3 1 (.slice (some ⟨w1.heap.size, 0, none⟩) 0 0) (rnL L 0).length (nv (rnL L 0))) := own_made w1 _ rfl hb1.size
    have HBW := Lib.hid (hb1.alloc hb1.size (.cells #[] 3))
    clear hb1 C1
    go_upto_region 7 with fail
    go_loopw [5, 6, 43] (fun v u i wr => ∃ k : Nat, k ≤ n ∧ i = .int .i64 k ∧ u = .bool (rnB L false k) ∧ Hid (wr.ownsRow w.heap.size 3 1 v (rnL L k).length (nv (rnL L k))) ∧ Hid (Below w.heap.size w wr)) (fun _ _ i _ => n - (intOf i).toNat)
    case atStart => exact ⟨0, Nat.zero_le _, rfl, by first | rfl | (simp [rnB, fi]), HOW, HBW⟩
    case round =>
      obtain ⟨k, hk, rfl, rfl, hown, hbel⟩ := hrel
      by_cases hlt : k < n
      · have hk' : k < L.length := by have := HN.out; omega
        obtain ⟨b1, o1, hAe, hb1, hc0, hc1⟩ := at_sk HA.out hk'
        have hd0 := ((below_cells hbel.out).1 b1 (o1 + k * 2) hb1).trans hc0
        have hd1 := ((below_cells hbel.out).1 b1 (o1 + k * 2 + 1) hb1).trans hc1
        have hrb := rnB_next L false k
        have hrl := wh_next k (nextQ L)
        have hnq : nextQ L k = decide ((sk L k).2 = 4) := rfl
        have hgl : (rnL L k).length ≤ k := wh_le k (nextQ L)
        rw [hnq] at hrl
        generalize (sk L k).1 = s at *
        generalize (sk L k).2 = z at *
        have hwr := hbel.out.size
        obtain ⟨AE, cE, rfl, hcE, hcE2⟩ := own_slice hown.out
        obtain ⟨W3, hW3⟩ : ∃ W, W = wr.alloc (.cells #[.string s, .int .i64 z] 63) := ⟨_, rfl⟩
        have K3 : Blk W3 wr.heap.size 63 #[.string s, .int .i64 z] := by rw [hW3]; exact Blk.new wr _ _
        have hb3 : Below wr.heap.size wr W3 := by rw [hW3]; exact below_alloc _ _
        have KK := Lib.hid K3
        have q0 := K3.cell 0 (v := .string s) rfl
        have q1 := K3.cell 1 (v := .int .i64 z) rfl
        have HB3 := Lib.hid (hbel.out.trans (hb3.mono hwr))
        have HO3 := Lib.hid (own_below hown.out hb3)
        have CK := Lib.hid (rghost_any s z W3)
        have HW3 := Lib.hid hW3
        have hcase : (ghI z = false ∧ (z == 4) = false ∧ rnB L false (k + 1) = rnB L false k ∧ rnL L (k + 1) = rnL L k) ∨ (ghI z = true ∧ (z == 4) = false ∧ rnB L false (k + 1) = false ∧ rnL L (k + 1) = rnL L k) ∨ (ghI z = true ∧ (z == 4) = true ∧ rnB L false (k + 1) = false ∧ rnL L (k + 1) = rnL L k ++ [k]) := by
          by_cases h4 : z = 4
          · have hg : ghI z = true := by unfold ghI; rw [decide_eq_true h4]; rfl
            refine .inr (.inr ⟨hg, by simpa using h4, by rw [hrb, if_pos hg], ?_⟩)
            show wh (k + 1) _ = _
            rw [hrl, decide_eq_true h4, if_pos rfl]
            rfl
          · have hl : rnL L (k + 1) = rnL L k := by
              show wh (k + 1) _ = _
              rw [hrl, decide_eq_false h4, if_neg (by simp)]
              rfl
            cases hg : ghI z with
            | false => exact .inl ⟨rfl, by simpa using h4, by rw [hrb, hg]; simp, hl⟩
            | true => exact .inr (.inl ⟨rfl, by simpa using h4, by rw [hrb, hg]; simp, hl⟩)
        clear hc0 hc1 hrb hrl hnq hW3 K3 hb3 hown hbel
        first | subst hAe | (injection hAe with e2; injection e2 with e3 e4; subst e3 e4)
        generalize hgz : rnB L false k = bb at *
        rcases hcase with ⟨hg, h4, hB, hL⟩ | ⟨hg, h4, hB, hL⟩ | ⟨hg, h4, hB, hL⟩
        · rw [hg] at CK
          have HBX := Lib.hid hB
          have HLX := Lib.hid hL
          clear hg hB hL hgz
          go_upto_region 9 with fail
          rw [← HW3.out]
          go_wp2_with fail
          refine CK.out.mono ?_
          rintro e w6 ⟨rfl, hb6⟩
          have HB6 := Lib.hid (HB3.out.trans (hb6.mono HB3.out.size))
          have HO6 := Lib.hid (own_below HO3.out hb6)
          have q6 := (KK.out.below hb6).cell 1 (v := .int .i64 z) rfl
          have hw6 := HB6.out.size
          clear hb6 CK HB3 HO3 q0 q1 KK
          go_wp2
          go_roundw
          case rel => exact ⟨k + 1, by omega, by go_num, by rw [HBX.out], by show World.ownsRow _ _ _ _ _ _ _; rw [HLX.out]; exact HO6.out, HB6⟩
          case measure => simp [intOf]; omega
        · rw [hg] at CK
          have HBX := Lib.hid hB
          have HLX := Lib.hid hL
          clear hg hB hL hgz
          go_upto_region 9 with fail
          rw [← HW3.out]
          go_wp2_with fail
          refine CK.out.mono ?_
          rintro e w6 ⟨rfl, hb6⟩
          have HB6 := Lib.hid (HB3.out.trans (hb6.mono HB3.out.size))
          have HO6 := Lib.hid (own_below HO3.out hb6)
          have q6 := (KK.out.below hb6).cell 1 (v := .int .i64 z) rfl
          have hw6 := HB6.out.size
          clear hb6 CK HB3 HO3 q0 q1 KK
          go_wp2
          go_roundw
          case rel => exact ⟨k + 1, by omega, by go_num, by rw [HBX.out], by show World.ownsRow _ _ _ _ _ _ _; rw [HLX.out]; exact HO6.out, HB6⟩
          case measure => simp [intOf]; omega
        · rw [hg] at CK
          have HBX := Lib.hid hB
          have HLX := Lib.hid hL
          clear hg hB hL hgz
          go_upto_region 9 with fail
          rw [← HW3.out]
          go_wp2_with fail
          refine CK.out.mono ?_
          rintro e w6 ⟨rfl, hb6⟩
          have HB6 := Lib.hid (HB3.out.trans (hb6.mono HB3.out.size))
          have HO6 := Lib.hid (own_below HO3.out hb6)
          have q6 := (KK.out.below hb6).cell 1 (v := .int .i64 z) rfl
          have hw6 := HB6.out.size
          clear hb6 CK HB3 HO3 q0 q1 KK
          go_wp2_with (at_builtin; refine wpList_append_own _ rfl _ _ 29 rfl w.heap.size 3 i0 (.int .i64 0) 1 8 Try.underlying29 hi hz0 hz1 hz2 rfl (by decide) _ _ _ rfl (HO6.out.alloc _) ⟨_, 0, none⟩ 1 1 [.int .i64 (k : Int)] rfl rfl (cell_one_new _ _ _) (nv_one [k]) (by unfold maxLen; omega) (by omega) (by simp; omega) ?_; intro v1 w1 hown1 hgrow1 _hnil1; have HO1 := Lib.hid hown1; have HG1 := Lib.hid hgrow1; clear hown1 hgrow1 _hnil1)
          go_roundw
          case rel => exact ⟨k + 1, by omega, by go_num, by rw [HBX.out], by show World.ownsRow _ _ _ _ _ _ _; rw [HLX.out, List.length_append, nv_app]; exact HO1.out, (HB6.out.alloc hw6 _).grown HG1.out (by simp; omega) (own_from HO6.out)⟩
          case measure => simp [intOf]; omega
      · obtain rfl : n = k := by omega
        go_wp2
        go_ret2
        exact ⟨_, by rw [HX2.out]; rfl, by rw [HX1.out]; exact hown.out, hbel.out⟩
  · have han := (cur_some hcur).1
    rw [← hn] at han
    obtain ⟨b0, o0, hA0, hbb, _, hk1⟩ := at_sk ha (k := a) (by omega)
    obtain ⟨y, hy⟩ : ∃ y, y = (sk L a).2 := ⟨_, rfl⟩
    rw [← hy] at hk1
    have HX1 : Hid (enI y = false → nextL L = rnL L n) := by show _ → _; intro h; unfold nextL rnL; rw [hcur]; show (if enI (sk L a).2 = true then [] else _) = _; rw [← hy, h, hn]; simp
    have HX3 : Hid (enI y = true → nextL L = []) := by show _ → _; intro h; unfold nextL; rw [hcur]; show (if enI (sk L a).2 = true then [] else _) = _; rw [← hy, h]; simp
    have HX2 : Hid (nextB L = rnB L (decide (y = 1)) n) := by show _ = _; unfold nextB rnB; rw [hcur, hy, hn]
    rw [hcur, show oI2 (some a) = (a : Int) from rfl] at C1
    have HKC := Lib.hid hk1
    subst hA0
    clear hn ha hcur hy hk1
    go_enter Try.func29, Try.ntmps29
    go_wp2_with fail
    refine C1.out.mono ?_
    rintro e w1 ⟨rfl, hb1⟩
    obtain ⟨W2, hW2⟩ : ∃ W, W = w1.alloc (.cells #[] 3) := ⟨_, rfl⟩
    obtain ⟨gr, hgr⟩ : ∃ g, g = w1.heap.size := ⟨_, rfl⟩
    have HOW : Hid (W2.ownsRow w.heap.size 3 1 (.slice (some ⟨gr, 0, none⟩) 0 0) (rnL L 0).length (nv (rnL L 0))) := by show World.ownsRow _ _ _ _ _ _ _; rw [hW2, hgr]; exact own_made w1 _ rfl hb1.size
    have HBW : Hid (Below w.heap.size w W2) := by show Below _ _ _; rw [hW2]; exact hb1.alloc hb1.size _
    have hd1 := (HBW.out.cell (p := ⟨b0, o0 + a * 2 + 1, none⟩) hbb).trans HKC.out
    have HW2 := Lib.hid hW2
    have HGR := Lib.hid hgr
    clear hb1 C1 hW2 hgr
    go_upto_region 3 with fail
    rw [← HW2.out, ← HGR.out]
    by_cases y1 : y = 1
    · have e1 : (y == 1) = true := by simpa using y1
      have e2 : (y == 2) = false := by simp [y1]
      have e3 : (y == 3) = false := by simp [y1]
      have HX1' : Hid (nextL L = rnL L n) := HX1.out (by rw [y1]; rfl)
      have HX2' : Hid (nextB L = rnB L true n) := by show _ = _; rw [HX2.out, decide_eq_true y1]
      clear HX1 HX2 y1
      have HX1 := HX1'
      have HX2 := HX2'
      clear HX1' HX2'
      go_upto_region 7 with fail
      clear e1 e2 e3 hd1
      go_loopw [5, 6, 43] (fun v u i wr => ∃ k : Nat, k ≤ n ∧ i = .int .i64 k ∧ u = .bool (rnB L true k) ∧ Hid (wr.ownsRow w.heap.size 3 1 v (rnL L k).length (nv (rnL L k))) ∧ Hid (Below w.heap.size w wr)) (fun _ _ i _ => n - (intOf i).toNat)
      case atStart => exact ⟨0, Nat.zero_le _, rfl, by first | rfl | (simp [rnB, fi]), HOW, HBW⟩
      case round =>
        obtain ⟨k, hk, rfl, rfl, hown, hbel⟩ := hrel
        by_cases hlt : k < n
        · have hk' : k < L.length := by have := HN.out; omega
          obtain ⟨b1, o1, hAe, hb1, hc0, hc1⟩ := at_sk HA.out hk'
          have hd0 := ((below_cells hbel.out).1 b1 (o1 + k * 2) hb1).trans hc0
          have hd1 := ((below_cells hbel.out).1 b1 (o1 + k * 2 + 1) hb1).trans hc1
          have hrb := rnB_next L true k
          have hrl := wh_next k (nextQ L)
          have hnq : nextQ L k = decide ((sk L k).2 = 4) := rfl
          have hgl : (rnL L k).length ≤ k := wh_le k (nextQ L)
          rw [hnq] at hrl
          generalize (sk L k).1 = s at *
          generalize (sk L k).2 = z at *
          have hwr := hbel.out.size
          obtain ⟨AE, cE, rfl, hcE, hcE2⟩ := own_slice hown.out
          obtain ⟨W3, hW3⟩ : ∃ W, W = wr.alloc (.cells #[.string s, .int .i64 z] 63) := ⟨_, rfl⟩
          have K3 : Blk W3 wr.heap.size 63 #[.string s, .int .i64 z] := by rw [hW3]; exact Blk.new wr _ _
          have hb3 : Below wr.heap.size wr W3 := by rw [hW3]; exact below_alloc _ _
          have KK := Lib.hid K3
          have q0 := K3.cell 0 (v := .string s) rfl
          have q1 := K3.cell 1 (v := .int .i64 z) rfl
          have HB3 := Lib.hid (hbel.out.trans (hb3.mono hwr))
          have HO3 := Lib.hid (own_below hown.out hb3)
          have CK := Lib.hid (rghost_any s z W3)
          have HW3 := Lib.hid hW3
          have hcase : (ghI z = false ∧ (z == 4) = false ∧ rnB L true (k + 1) = rnB L true k ∧ rnL L (k + 1) = rnL L k) ∨ (ghI z = true ∧ (z == 4) = false ∧ rnB L true (k + 1) = false ∧ rnL L (k + 1) = rnL L k) ∨ (ghI z = true ∧ (z == 4) = true ∧ rnB L true (k + 1) = false ∧ rnL L (k + 1) = rnL L k ++ [k]) := by
            by_cases h4 : z = 4
            · have hg : ghI z = true := by unfold ghI; rw [decide_eq_true h4]; rfl
              refine .inr (.inr ⟨hg, by simpa using h4, by rw [hrb, if_pos hg], ?_⟩)
              show wh (k + 1) _ = _
              rw [hrl, decide_eq_true h4, if_pos rfl]
              rfl
            · have hl : rnL L (k + 1) = rnL L k := by
                show wh (k + 1) _ = _
                rw [hrl, decide_eq_false h4, if_neg (by simp)]
                rfl
              cases hg : ghI z with
              | false => exact .inl ⟨rfl, by simpa using h4, by rw [hrb, hg]; simp, hl⟩
              | true => exact .inr (.inl ⟨rfl, by simpa using h4, by rw [hrb, hg]; simp, hl⟩)
          clear hc0 hc1 hrb hrl hnq hW3 K3 hb3 hown hbel
          first | subst hAe | (injection hAe with e2; injection e2 with e3 e4; subst e3 e4)
          generalize hgz : rnB L true k = bb at *
          rcases hcase with ⟨hg, h4, hB, hL⟩ | ⟨hg, h4, hB, hL⟩ | ⟨hg, h4, hB, hL⟩
          · rw [hg] at CK
            have HBX := Lib.hid hB
            have HLX := Lib.hid hL
            clear hg hB hL hgz
            go_upto_region 9 with fail
            rw [← HW3.out]
            go_wp2_with fail
            refine CK.out.mono ?_
            rintro e w6 ⟨rfl, hb6⟩
            have HB6 := Lib.hid (HB3.out.trans (hb6.mono HB3.out.size))
            have HO6 := Lib.hid (own_below HO3.out hb6)
            have q6 := (KK.out.below hb6).cell 1 (v := .int .i64 z) rfl
            have hw6 := HB6.out.size
            clear hb6 CK HB3 HO3 q0 q1 KK
            go_wp2
            go_roundw
            case rel => exact ⟨k + 1, by omega, by go_num, by rw [HBX.out], by show World.ownsRow _ _ _ _ _ _ _; rw [HLX.out]; exact HO6.out, HB6⟩
            case measure => simp [intOf]; omega
          · rw [hg] at CK
            have HBX := Lib.hid hB
            have HLX := Lib.hid hL
            clear hg hB hL hgz
            go_upto_region 9 with fail
            rw [← HW3.out]
            go_wp2_with fail
            refine CK.out.mono ?_
            rintro e w6 ⟨rfl, hb6⟩
            have HB6 := Lib.hid (HB3.out.trans (hb6.mono HB3.out.size))
            have HO6 := Lib.hid (own_below HO3.out hb6)
            have q6 := (KK.out.below hb6).cell 1 (v := .int .i64 z) rfl
            have hw6 := HB6.out.size
            clear hb6 CK HB3 HO3 q0 q1 KK
            go_wp2
            go_roundw
            case rel => exact ⟨k + 1, by omega, by go_num, by rw [HBX.out], by show World.ownsRow _ _ _ _ _ _ _; rw [HLX.out]; exact HO6.out, HB6⟩
            case measure => simp [intOf]; omega
          · rw [hg] at CK
            have HBX := Lib.hid hB
            have HLX := Lib.hid hL
            clear hg hB hL hgz
            go_upto_region 9 with fail
            rw [← HW3.out]
            go_wp2_with fail
            refine CK.out.mono ?_
            rintro e w6 ⟨rfl, hb6⟩
            have HB6 := Lib.hid (HB3.out.trans (hb6.mono HB3.out.size))
            have HO6 := Lib.hid (own_below HO3.out hb6)
            have q6 := (KK.out.below hb6).cell 1 (v := .int .i64 z) rfl
            have hw6 := HB6.out.size
            clear hb6 CK HB3 HO3 q0 q1 KK
            go_wp2_with (at_builtin; refine wpList_append_own _ rfl _ _ 29 rfl w.heap.size 3 i0 (.int .i64 0) 1 8 Try.underlying29 hi hz0 hz1 hz2 rfl (by decide) _ _ _ rfl (HO6.out.alloc _) ⟨_, 0, none⟩ 1 1 [.int .i64 (k : Int)] rfl rfl (cell_one_new _ _ _) (nv_one [k]) (by unfold maxLen; omega) (by omega) (by simp; omega) ?_; intro v1 w1 hown1 hgrow1 _hnil1; have HO1 := Lib.hid hown1; have HG1 := Lib.hid hgrow1; clear hown1 hgrow1 _hnil1)
            go_roundw
            case rel => exact ⟨k + 1, by omega, by go_num, by rw [HBX.out], by show World.ownsRow _ _ _ _ _ _ _; rw [HLX.out, List.length_append, nv_app]; exact HO1.out, (HB6.out.alloc hw6 _).grown HG1.out (by simp; omega) (own_from HO6.out)⟩
            case measure => simp [intOf]; omega
        · obtain rfl : n = k := by omega
          go_wp2
          go_ret2
          exact ⟨_, by rw [HX2.out]; rfl, by rw [HX1.out]; exact hown.out, hbel.out⟩
    · have e1 : (y == 1) = false := by simpa using y1
      have HX2' : Hid (nextB L = rnB L false n) := by show _ = _; rw [HX2.out, decide_eq_false y1]
      clear HX2 y1
      by_cases y2 : y = 2
      · have e2 : (y == 2) = true := by simpa using y2
        have HE := Lib.hid (HX3.out (by rw [y2]; rfl))
        clear y2
        go_wp2
        go_ret2
        exact ⟨.slice (some ⟨gr, 0, none⟩) 0 0, by rw [HX2'.out]; rfl, by rw [HE.out]; exact HOW.out, HBW.out⟩
      · have e2 : (y == 2) = false := by simpa using y2
        by_cases y3 : y = 3
        · have e3 : (y == 3) = true := by simpa using y3
          have HE := Lib.hid (HX3.out (by rw [y3]; rfl))
          clear y2 y3
          go_wp2
          go_ret2
          exact ⟨.slice (some ⟨gr, 0, none⟩) 0 0, by rw [HX2'.out]; rfl, by rw [HE.out]; exact HOW.out, HBW.out⟩
        · have e3 : (y == 3) = false := by simpa using y3
          have HX1' : Hid (nextL L = rnL L n) := HX1.out (by unfold enI; rw [decide_eq_false y2, decide_eq_false y3]; rfl)
          clear HX1 y2 y3
          have HX1 := HX1'
          have HX2 := HX2'
          clear HX1' HX2'
          go_upto_region 7 with fail
          clear e1 e2 e3 hd1
          go_loopw [5, 6, 43] (fun v u i wr => ∃ k : Nat, k ≤ n ∧ i = .int .i64 k ∧ u = .bool (rnB L false k) ∧ Hid (wr.ownsRow w.heap.size 3 1 v (rnL L k).length (nv (rnL L k))) ∧ Hid (Below w.heap.size w wr)) (fun _ _ i _ => n - (intOf i).toNat)
          case atStart => exact ⟨0, Nat.zero_le _, rfl, by first | rfl | (simp [rnB, fi]), HOW, HBW⟩
          case round =>
            obtain ⟨k, hk, rfl, rfl, hown, hbel⟩ := hrel
            by_cases hlt : k < n
            · have hk' : k < L.length := by have := HN.out; omega
              obtain ⟨b1, o1, hAe, hb1, hc0, hc1⟩ := at_sk HA.out hk'
              have hd0 := ((below_cells hbel.out).1 b1 (o1 + k * 2) hb1).trans hc0
              have hd1 := ((below_cells hbel.out).1 b1 (o1 + k * 2 + 1) hb1).trans hc1
              have hrb := rnB_next L false k
              have hrl := wh_next k (nextQ L)
              have hnq : nextQ L k = decide ((sk L k).2 = 4) := rfl
              have hgl : (rnL L k).length ≤ k := wh_le k (nextQ L)
              rw [hnq] at hrl
              generalize (sk L k).1 = s at *
              generalize (sk L k).2 = z at *
              have hwr := hbel.out.size
              obtain ⟨AE, cE, rfl, hcE, hcE2⟩ := own_slice hown.out
              obtain ⟨W3, hW3⟩ : ∃ W, W = wr.alloc (.cells #[.string s, .int .i64 z] 63) := ⟨_, rfl⟩
              have K3 : Blk W3 wr.heap.size 63 #[.string s, .int .i64 z] := by rw [hW3]; exact Blk.new wr _ _
              have hb3 : Below wr.heap.size wr W3 := by rw [hW3]; exact below_alloc _ _
              have KK := Lib.hid K3
              have q0 := K3.cell 0 (v := .string s) rfl
              have q1 := K3.cell 1 (v := .int .i64 z) rfl
              have HB3 := Lib.hid (hbel.out.trans (hb3.mono hwr))
              have HO3 := Lib.hid (own_below hown.out hb3)
              have CK := Lib.hid (rghost_any s z W3)
              have HW3 := Lib.hid hW3
              have hcase : (ghI z = false ∧ (z == 4) = false ∧ rnB L false (k + 1) = rnB L false k ∧ rnL L (k + 1) = rnL L k) ∨ (ghI z = true ∧ (z == 4) = false ∧ rnB L false (k + 1) = false ∧ rnL L (k + 1) = rnL L k) ∨ (ghI z = true ∧ (z == 4) = true ∧ rnB L false (k + 1) = false ∧ rnL L (k + 1) = rnL L k ++ [k]) := by
                by_cases h4 : z = 4
                · have hg : ghI z = true := by unfold ghI; rw [decide_eq_true h4]; rfl
                  refine .inr (.inr ⟨hg, by simpa using h4, by rw [hrb, if_pos hg], ?_⟩)
                  show wh (k + 1) _ = _
                  rw [hrl, decide_eq_true h4, if_pos rfl]
                  rfl
                · have hl : rnL L (k + 1) = rnL L k := by
                    show wh (k + 1) _ = _
                    rw [hrl, decide_eq_false h4, if_neg (by simp)]
                    rfl
                  cases hg : ghI z with
                  | false => exact .inl ⟨rfl, by simpa using h4, by rw [hrb, hg]; simp, hl⟩
                  | true => exact .inr (.inl ⟨rfl, by simpa using h4, by rw [hrb, hg]; simp, hl⟩)
              clear hc0 hc1 hrb hrl hnq hW3 K3 hb3 hown hbel
              first | subst hAe | (injection hAe with e2; injection e2 with e3 e4; subst e3 e4)
              generalize hgz : rnB L false k = bb at *
              rcases hcase with ⟨hg, h4, hB, hL⟩ | ⟨hg, h4, hB, hL⟩ | ⟨hg, h4, hB, hL⟩
              · rw [hg] at CK
                have HBX := Lib.hid hB
                have HLX := Lib.hid hL
                clear hg hB hL hgz
                go_upto_region 9 with fail
                rw [← HW3.out]
                go_wp2_with fail
                refine CK.out.mono ?_
                rintro e w6 ⟨rfl, hb6⟩
                have HB6 := Lib.hid (HB3.out.trans (hb6.mono HB3.out.size))
                have HO6 := Lib.hid (own_below HO3.out hb6)
                have q6 := (KK.out.below hb6).cell 1 (v := .int .i64 z) rfl
                have hw6 := HB6.out.size
                clear hb6 CK HB3 HO3 q0 q1 KK
                go_wp2
                go_roundw
                case rel => exact ⟨k + 1, by omega, by go_num, by rw [HBX.out], by show World.ownsRow _ _ _ _ _ _ _; rw [HLX.out]; exact HO6.out, HB6⟩
                case measure => simp [intOf]; omega
              · rw [hg] at CK
                have HBX := Lib.hid hB
                have HLX := Lib.hid hL
                clear hg hB hL hgz
                go_upto_region 9 with fail
                rw [← HW3.out]
                go_wp2_with fail
                refine CK.out.mono ?_
                rintro e w6 ⟨rfl, hb6⟩
                have HB6 := Lib.hid (HB3.out.trans (hb6.mono HB3.out.size))
                have HO6 := Lib.hid (own_below HO3.out hb6)
                have q6 := (KK.out.below hb6).cell 1 (v := .int .i64 z) rfl
                have hw6 := HB6.out.size
                clear hb6 CK HB3 HO3 q0 q1 KK
                go_wp2
                go_roundw
                case rel => exact ⟨k + 1, by omega, by go_num, by rw [HBX.out], by show World.ownsRow _ _ _ _ _ _ _; rw [HLX.out]; exact HO6.out, HB6⟩
                case measure => simp [intOf]; omega
              · rw [hg] at CK
                have HBX := Lib.hid hB
                have HLX := Lib.hid hL
                clear hg hB hL hgz
                go_upto_region 9 with fail
                rw [← HW3.out]
                go_wp2_with fail
                refine CK.out.mono ?_
                rintro e w6 ⟨rfl, hb6⟩
                have HB6 := Lib.hid (HB3.out.trans (hb6.mono HB3.out.size))
                have HO6 := Lib.hid (own_below HO3.out hb6)
                have q6 := (KK.out.below hb6).cell 1 (v := .int .i64 z) rfl
                have hw6 := HB6.out.size
                clear hb6 CK HB3 HO3 q0 q1 KK
                go_wp2_with (at_builtin; refine wpList_append_own _ rfl _ _ 29 rfl w.heap.size 3 i0 (.int .i64 0) 1 8 Try.underlying29 hi hz0 hz1 hz2 rfl (by decide) _ _ _ rfl (HO6.out.alloc _) ⟨_, 0, none⟩ 1 1 [.int .i64 (k : Int)] rfl rfl (cell_one_new _ _ _) (nv_one [k]) (by unfold maxLen; omega) (by omega) (by simp; omega) ?_; intro v1 w1 hown1 hgrow1 _hnil1; have HO1 := Lib.hid hown1; have HG1 := Lib.hid hgrow1; clear hown1 hgrow1 _hnil1)
                go_roundw
                case rel => exact ⟨k + 1, by omega, by go_num, by rw [HBX.out], by show World.ownsRow _ _ _ _ _ _ _; rw [HLX.out, List.length_append, nv_app]; exact HO1.out, (HB6.out.alloc hw6 _).grown HG1.out (by simp; omega) (own_from HO6.out)⟩
                case measure => simp [intOf]; omega
            · obtain rfl : n = k := by omega
              go_wp2
              go_ret2
              exact ⟨_, by rw [HX2.out]; rfl, by rw [HX1.out]; exact hown.out, hbel.out⟩
set_option maxHeartbeats 4000000 in
set_option maxRecDepth 100000 in
theorem snext_any (A : Option Addr) (n c : Nat) (L : List Sk) (w : World) (hn : n = L.length) (hm : n ≤ 1000) (ha : At w A (scs L)) :
    Calls Try.prog 28 #[.slice A n c] w fun e w' => ∃ v, e = .returned (.tuple #[v, .bool (nextB L)]) ∧ w'.ownsRow w.heap.size 3 1 v (nextL L).length (nv (nextL L)) ∧ Below w.heap.size w w' := by
  obtain ⟨b0, hb0⟩ : ∃ b, b = w.heap.size := ⟨_, rfl⟩
  obtain ⟨U, hU⟩ : ∃ W, W = w.alloc (.cells #[.slice A n c] 45) := ⟨_, rfl⟩
  have hbU : Below w.heap.size w U := by rw [hU]; exact below_alloc w _
  have HK := Lib.hid (show Blk U b0 45 #[.slice A n c] by rw [hU, hb0]; exact Blk.new w _ _)
  have HAU := Lib.hid (ha.below hbU)
  have C1 := Lib.hid (current_any A n c L U hn (by omega) HAU.out)
  have CW := Lib.hid (fun W (hW : Below U.heap.size U W) => where_next n b0 (nextQ L) W (by omega) (fun W2 i hi hb => next1_any i b0 A n c L W2 hi hn (((HK.out.below hW).below hb).cell 0 rfl) ((HAU.out.below hW).below hb)))
  have CC := Lib.hid (fun W (hW : Below U.heap.size U W) => contains_any A n c L W hn (by omega) (HAU.out.below hW))
  have HU := Lib.hid hU
  have HG := Lib.hid hb0
  have HB := Lib.hid hbU
  have HN := Lib.hid hn
  have r0 := HK.out.cell 0 (v := .slice A n c) rfl
  obtain hcur | ⟨a, hcur⟩ : cur L = none ∨ ∃ a, cur L = some a := by
    cases cur L with
    | none => exact .inl rfl
    | some a => exact .inr ⟨a, rfl⟩
  · have HX1 : Hid (nextL L = wh n (nextQ L)) := by show _ = _; unfold nextL; rw [hcur, hn]
    have HX2 : Hid (nextB L = false) := by show _ = _; unfold nextB; rw [hcur]
    rw [hcur, show oI none = -1 from rfl] at C1
    clear hn ha hcur hU hb0 hbU
    go_enter Try.func28, Try.ntmps28
    go_upto_region 1 with fail
    rw [← HU.out, ← HG.out]
    go_wp2_with fail
    refine C1.out.mono ?_
    rintro e w1 ⟨rfl, hb1⟩
    have HB1 := Lib.hid hb1
    have r1 := (HK.out.below hb1).cell 0 (v := .slice A n c) rfl
    clear hb1 r0 C1
    go_wp2_with fail
    refine (CW.out _ HB1.out).mono ?_
    rintro e w2 ⟨v, rfl, ho, hb2⟩
    obtain ⟨A5, c5, rfl, _, _⟩ := own_slice ho
    have HO := Lib.hid (own_mono ho (Nat.le_trans HB.out.size HB1.out.size))
    have HB2 := Lib.hid ((HB.out.trans (HB1.out.mono HB.out.size)).trans (hb2.mono (Nat.le_trans HB.out.size HB1.out.size)))
    clear ho hb2 r1 HB1
    go_wp2
    go_ret2
    exact ⟨_, by rw [HX2.out]; rfl, by rw [HX1.out]; exact HO.out, HB2.out⟩
  · have han := (cur_some hcur).1
    rw [← hn] at han
    obtain ⟨bq, oq, hA0, hbb, hk0, hk1⟩ := at_sk HAU.out (k := a) (by omega)
    obtain ⟨y, hy⟩ : ∃ y, y = (sk L a).2 := ⟨_, rfl⟩
    obtain ⟨s, hs⟩ : ∃ y, y = (sk L a).1 := ⟨_, rfl⟩
    rw [← hy] at hk1
    rw [← hs] at hk0
    have hX1 : nextL L = if enI y = true then [] else wh n (nextQ L) := by unfold nextL; rw [hcur, hy, hn]
    have hX2 : nextB L = (decide (y = 1) && !(fi (fun i => ghI (sk L i).2) n).isSome) := by unfold nextB; rw [hcur, hy, hn]
    rw [hcur, show oI (some a) = (a : Int) from rfl] at C1
    have HC0 := Lib.hid hk0
    have HC1 := Lib.hid hk1
    have CL := Lib.hid (fun W => slook_any s y W)
    have CEx := fun W => entering_any y 0 0 0 W
    replace CEx : ∀ W, Calls Try.prog 55 #[.agg #[.int .i64 y, .int .i64 0, .int .i64 0, .int .i64 0]] W fun e w' => e = .returned (.bool (enI y)) ∧ Below W.heap.size W w' := CEx
    have hen1 : enI y = true → decide (y = 1) = false := fun h => by
      unfold enI at h
      apply decide_eq_false
      intro e
      rw [e] at h
      cases h
    generalize (fi (fun i => ghI (sk L i).2) n).isSome = gs at *
    obtain ⟨en, hen⟩ : ∃ b, b = enI y := ⟨_, rfl⟩
    rw [← hen] at CEx hX1 hen1
    have CE := Lib.hid CEx
    have HX1 := Lib.hid hX1
    have HX2 := Lib.hid hX2
    have HEN1 := Lib.hid hen1
    subst hA0
    clear hn ha hcur hU hb0 hbU hy hs hk0 hk1 hX1 hX2 hen CEx hen1
    go_enter Try.func28, Try.ntmps28
    go_upto_region 1 with fail
    rw [← HU.out, ← HG.out]
    go_wp2_with fail
    refine C1.out.mono ?_
    rintro e w1 ⟨rfl, hb1⟩
    have HB1 := Lib.hid hb1
    have r1 := (HK.out.below hb1).cell 0 (v := .slice (some ⟨bq, oq, none⟩) n c) rfl
    have d0 := (hb1.cell (p := ⟨bq, oq + a * 2, none⟩) hbb).trans HC0.out
    have d1 := (hb1.cell (p := ⟨bq, oq + a * 2 + 1, none⟩) hbb).trans HC1.out
    clear hb1 r0 C1
    go_wp2_with fail
    refine (CL.out _).mono ?_
    rintro e w2 ⟨rfl, hb2⟩
    have HB2 := Lib.hid (HB1.out.trans (hb2.mono HB1.out.size))
    clear hb2 r1 d0 d1 HB1
    go_wp2_with fail
    refine (CE.out _).mono ?_
    rintro e w3 ⟨rfl, hb3⟩
    have HB3 := Lib.hid (HB2.out.trans (hb3.mono HB2.out.size))
    have r3 := (HK.out.below HB3.out).cell 0 (v := .slice (some ⟨bq, oq, none⟩) n c) rfl
    clear hb3 HB2
    cases en with
    | true =>
      have HE : Hid (nextL L = []) := by show _ = _; rw [HX1.out]; simp
      have HF : Hid (nextB L = false) := by show _ = _; rw [HX2.out, HEN1.out rfl]; rfl
      go_wp2
      go_ret2
      exact ⟨.slice none 0 0, by rw [HF.out]; rfl, by rw [HE.out]; exact World.ownsRow_nil _ _ _ _, HB.out.trans (HB3.out.mono HB.out.size)⟩
    | false =>
      have HE : Hid (nextL L = wh n (nextQ L)) := by show _ = _; rw [HX1.out]; simp
      go_wp2_with fail
      refine (CW.out _ HB3.out).mono ?_
      rintro e w4 ⟨v, rfl, ho, hb4⟩
      obtain ⟨A5, c5, rfl, _, _⟩ := own_slice ho
      have HO := Lib.hid (own_mono ho (Nat.le_trans HB.out.size HB3.out.size))
      have HB4 := Lib.hid (HB3.out.trans (hb4.mono HB3.out.size))
      have r4 := (HK.out.below HB4.out).cell 0 (v := .slice (some ⟨bq, oq, none⟩) n c) rfl
      have d4 := (HB4.out.cell (p := ⟨bq, oq + a * 2 + 1, none⟩) hbb).trans HC1.out
      clear ho hb4 r3 HB3
      by_cases y1 : y = 1
      · have e1 : (y == 1) = true := by simpa using y1
        have HF : Hid (nextB L = !gs) := by show _ = _; rw [HX2.out, decide_eq_true y1]; rfl
        clear y1
        go_wp2_with fail
        refine (CC.out _ HB4.out).mono ?_
        rintro e w5 ⟨rfl, hb5⟩
        have HO5 := Lib.hid (own_below HO.out hb5)
        have HB5 := Lib.hid (HB4.out.trans (hb5.mono HB4.out.size))
        clear hb5
        go_wp2
        go_ret2
        exact ⟨_, by rw [HF.out]; rfl, by rw [HE.out]; exact HO5.out, HB.out.trans (HB5.out.mono HB.out.size)⟩
      · have e1 : (y == 1) = false := by simpa using y1
        have HF : Hid (nextB L = false) := by show _ = _; rw [HX2.out, decide_eq_false y1]; rfl
        clear y1
        go_wp2
        go_ret2
        exact ⟨_, by rw [HF.out]; rfl, by rw [HE.out]; exact HO.out, HB.out.trans (HB4.out.mono HB.out.size)⟩
end Go.Proofs.Ytfapghekakdpgaa
