/- Contract of FlowColumns. -/
import Derived.Test.YtjpdnnjijcmioaaFlOpen
import Derived.BigQuiet
import Derived.Deep.DeepCutAuto
namespace Go.Proofs.Ytjpdnnjijcmioaa
open Go.RowKit M Fl
attribute [-go_sem] Builtin.append_
theorem colmap (qw : Int) (L : List Bx) (j : Nat) (h : j < L.length) : (L.map fun b => (qw, b.2)).getD j (0, 0) = (qw, (L.getD j (0, 0)).2) := by
  simp [List.getD_eq_getElem?_getD, List.getElem?_map, List.getElem?_eq_getElem h]
theorem colfew {q qw : Int} {L : List Bx} (hq : 0 ≤ qw) (hL : Few q L) : Few qw (L.map fun b => (qw, b.2)) := by
  intro k
  rcases Nat.lt_or_ge k L.length with h | h
  · rw [colmap qw L k h]
    have := hL k
    simp only
    omega
  · have e : (L.map fun b => (qw, b.2)).getD k (0, 0) = (0, 0) := by
      rw [List.getD_eq_getElem?_getD, List.getElem?_eq_none (by simpa using h)]; rfl
    rw [e]
    simp only
    omega
set_option maxHeartbeats 2000000 in
set_option maxRecDepth 100000 in
theorem FlowColumns_any (kind width cols gap : Int) (A : Option Addr) (n c : Nat) (L : List Bx) (w : World) (hbx : BoxesIn w A n c L) :
    Calls Try.prog 11 #[.agg #[.int .i64 kind, .int .i64 width, .int .i64 cols, .int .i64 gap, .slice A n c]] w fun e w' => e = .returned (.bool true) ∧ Below w.heap.size w w' := by
  obtain ⟨hn, hnc, hcm, ha⟩ := hbx
  have HN := Lib.hid hn
  have HA := Lib.hid ha
  have HM := Lib.hid (show n ≤ maxLen by omega)
  clear hn ha hnc hcm
  go_enter Try.func11, Try.ntmps11
  go_wp2_with (go_at_call 33; refine (awake14_any _).mono ?_; rintro e w1 ⟨rfl, hb1⟩; have K1 := Lib.hid ((Blk.new w _ _).below hb1); have B1 := Lib.hid ((below_alloc w _).trans (hb1.mono (by rw [size_alloc]; omega))); clear hb1; obtain ⟨⟨d0, d1, d2, d3, d4⟩, u0, u1, u2, u3, u4⟩ := K1.out.five)
  refine (small_any kind width cols gap A n c L _ HN.out HM.out (HA.out.below B1.out)).mono ?_
  rintro e w2 ⟨v2, rfl, hown2, hb2⟩
  have hN20 : min n 20 ≤ 20 := by omega
  have hNL : min n 20 = (sml (L.take 20)).length := by rw [sml_len, List.length_take, HN.out]; omega
  have hF := sml_few (L.take 20)
  generalize min n 20 = N at *
  generalize sml (L.take 20) = L' at *
  obtain ⟨A2, c2, rfl, hc2, hm2⟩ := own_slice hown2
  have hgw : w.heap.size < w1.heap.size := K1.out.lt
  have K2 := Lib.hid (K1.out.below hb2)
  have B2 := Lib.hid (B1.out.trans (hb2.mono B1.out.size))
  have O2 := Lib.hid hown2
  have HF := Lib.hid hF
  have HNL := Lib.hid hNL
  have HGW := Lib.hid hgw
  have s2 := Lib.hid hb2.size
  clear hown2 hb2 d0 d1 d2 d3 d4 u0 u1 u2 u3 u4 hF hNL hgw K1
  obtain ⟨⟨d0, d1, d2, d3, d4⟩, u0, u1, u2, u3, u4⟩ := K2.out.five
  have m1 := mask_7 cols
  have h8 : 0 ≤ cols % 8 ∧ cols % 8 ≤ 7 := by omega
  generalize cols % 8 = c8 at *
  have m2 : IntKind.i64.wrap (1 + c8) = 1 + c8 := by rw [IntKind.wrap_i64]; omega
  have hclp : clp (1 + c8) 1 64 = 1 + c8 := by unfold clp; omega
  have hw0 : 0 ≤ width % 2048 ∧ width % 2048 ≤ 2047 := by omega
  have hs0 : 0 ≤ gap % 16 ∧ gap % 16 ≤ 15 := by omega
  generalize width % 2048 = qw at *
  generalize gap % 16 = sp at *
  go_upto_region 5 with fail
  generalize hV : (((((w2.setCell ⟨w.heap.size, 0, none⟩ (.int .i64 kind)).setCell ⟨w.heap.size, 1, none⟩ (.int .i64 qw)).setCell ⟨w.heap.size, 2, none⟩ (.int .i64 cols)).setCell ⟨w.heap.size, 3, none⟩ (.int .i64 sp)).setCell ⟨w.heap.size, 4, none⟩ (.slice A2 N c2)).setCell ⟨w.heap.size, 0, none⟩ (.int .i64 2) = V
  have KV : Hid (Blk V w.heap.size 61 #[.int .i64 2, .int .i64 qw, .int .i64 cols, .int .i64 sp, .slice A2 N c2]) := by show Blk _ _ _ _; rw [← hV]; exact (((((K2.out.set 0 _).set 1 _).set 2 _).set 3 _).set 4 _).set 0 _
  have OV : Hid (V.ownsRow w1.heap.size 68 2 (.slice A2 N c2) N (cc L')) := by
    show World.ownsRow _ _ _ _ _ _ _
    rw [← hV]
    have hlt2 : w.heap.size < w1.heap.size := HGW.out
    iterate 6 refine own_other ?_ _ _ _ (by omega)
    exact O2.out
  have BV : Hid (Below w.heap.size w V) := by
    show Below _ _ _
    rw [← hV]
    have hlt2 : w.heap.size < w1.heap.size := HGW.out
    have hs2 : w1.heap.size ≤ w2.heap.size := s2.out
    iterate 6 refine below_setg ?_ _ _ _ (Nat.le_refl _) (by (try simp only [setCell_size']); omega)
    exact B2.out
  clear d0 d1 d2 d3 d4 u0 u1 u2 u3 u4 hV
  obtain ⟨⟨d0, d1, d2, d3, d4⟩, u0, u1, u2, u3, u4⟩ := KV.out.five
  go_wp2_with fail
  clear d0 d1 d2 d3 d4 u0 u1 u2 u3 u4
  have hlt2 : w.heap.size < w1.heap.size := HGW.out
  have hs2 : w.heap.size ≤ V.heap.size := BV.out.size
  refine Calls.mono (put_any 2 qw (1 + c8) sp A2 N c2 L' _ HNL.out (by unfold maxLen; omega) (At.own (base := w1.heap.size) (e := 68) (size := 2) (n := N) (cap := c2) ?_)) ?_
  · refine own_other ?_ _ _ _ (by omega)
    exact OV.out
  rintro e w4 ⟨v3, rfl, hown3, hb4⟩
  have K4 : Hid (Blk w4 w.heap.size 61 #[.int .i64 2, .int .i64 qw, .int .i64 (1 + c8), .int .i64 sp, .slice A2 N c2]) := by
    show Blk _ _ _ _
    refine Blk.below (w := _) ?_ hb4
    exact KV.out.set 2 _
  have O4 : Hid (w4.ownsRow w1.heap.size 68 2 (.slice A2 N c2) N (cc L')) := by
    show World.ownsRow _ _ _ _ _ _ _
    refine own_below (w := _) ?_ hb4
    refine own_other ?_ _ _ _ (by omega)
    exact OV.out
  have B4 : Hid (Below w.heap.size w w4) := by
    show Below _ _ _
    refine Below.trans (b := _) ?_ (hb4.mono ?_)
    · refine below_setg ?_ _ _ _ (Nat.le_refl _) (by omega)
      exact BV.out
    · simp only [setCell_size']; omega
  have s4 := hb4.size
  simp only [setCell_size'] at s4 hown3
  rw [show min N 40 = N by omega, show L'.take 40 = L' from List.take_of_length_le (by rw [← HNL.out]; omega), ln_small hs0.1 (by omega), bgK2 qw (1 + c8) (by decide) (by decide), bxK2 qw L' (by decide) (by decide), hclp] at hown3
  rw [show min N 40 = N by omega, show L'.take 40 = L' from List.take_of_length_le (by rw [← HNL.out]; omega), ln_small hs0.1 (by omega), bgK2 qw (1 + c8) (by decide) (by decide), bxK2 qw L' (by decide) (by decide), hclp]
  clear hb4 K2 O2 B2 B1 KV OV BV
  have hCM := colmap qw L'
  have HF' := Lib.hid (colfew hw0.1 HF.out)
  have hL2 : (L'.map fun b => (qw, b.2)).length = L'.length := by simp
  generalize (L'.map fun b => (qw, b.2)) = L2 at *
  have he1 : 1 ≤ 1 + c8 := by omega
  have he8 : 1 + c8 ≤ 8 := by omega
  generalize 1 + c8 = e at *
  clear h8 m1 m2 hclp
  have HCO := Lib.hid (fun (i : Nat) (hi : i < N) => columns he1 he8 hw0.1 hw0.2 hs0.1 hs0.2 HF'.out (fun j hj => by rw [hCM j (by omega)]) (by have := HNL.out; omega) (show i ≤ 40 by omega))
  have HCM := Lib.hid hCM
  have HE := Lib.hid (And.intro he1 he8)
  clear hCM
  have hWi := within (sp := sp) (bg := bgG e) (q := qw) (by omega) (by omega) hs0.1 hs0.2 HF'.out N (by omega)
  have hPa := past (sp := sp) (bg := bgG e) (q := qw) (by omega) (by omega) hs0.1 hs0.2 HF'.out N (by omega)
  unfold Past at hPa
  have HPT := Lib.hid (fun (k : Nat) (h : k < N) => pts_at sp (bgG e) L2 N k h)
  have hPL : (pts sp (bgG e) L2 N).length = N := pts_len _ _ _ _
  generalize pts sp (bgG e) L2 N = PP at *
  obtain ⟨W0, W1, _, _, _, W2, W3⟩ := hWi
  have hHH : 0 ≤ (run sp (bgG e) L2 N).2.2.2 := by omega
  generalize (run sp (bgG e) L2 N).2.2.1 = WW at *
  generalize (run sp (bgG e) L2 N).2.2.2 = HH at *
  have HPA : Hid (∀ j : Nat, j < N → 0 ≤ (pt sp (bgG e) L2 j).1 ∧ 0 ≤ (pt sp (bgG e) L2 j).2 ∧ (pt sp (bgG e) L2 j).1 + (L2.getD j (0, 0)).1 ≤ 42000 ∧ (pt sp (bgG e) L2 j).2 + (L2.getD j (0, 0)).2 ≤ 22000) := fun j hj => by
    obtain ⟨a, b, c, d, _⟩ := hPa j hj
    exact ⟨a, b, by omega, by omega⟩
  generalize pt sp (bgG e) L2 = ptf at *
  have HS0 := Lib.hid hs0
  have HW0 := Lib.hid hw0
  clear hPa W1 W3 W0 W2 hHH
  obtain ⟨A3, c3, rfl, hc3, hm3⟩ := own_slice hown3
  have O3 := Lib.hid hown3
  clear hown3
  obtain ⟨⟨d0, d1, d2, d3, d4⟩, u0, u1, u2, u3, u4⟩ := (K4.out.alloc (.cells #[.int .i64 WW, .int .i64 HH] 64)).five
  clear hs0 hw0 he1 he8
  go_wp2_with fail
  clear d0 d1 d2 d3 d4 u0 u1 u2 u3 u4
  generalize hg : w.heap.size = g at *
  have hW5 : ∃ W5, W5 = w4.alloc (.cells #[.int .i64 WW, .int .i64 HH] 64) := ⟨_, rfl⟩
  obtain ⟨W5, hW5⟩ := hW5
  rw [← hW5]
  have K5 := Lib.hid (show Blk W5 g _ _ by rw [hW5]; exact K4.out.alloc _)
  have L5 : Hid (At W5 A2 (cc L')) := by show At _ _ _; rw [hW5]; exact (At.own O4.out).alloc _
  have P5 : Hid (At W5 A3 (cc PP)) := by show At _ _ _; rw [hW5]; exact (At.own O3.out).alloc _
  have B5 : Hid (Below g w W5) := by show Below _ _ _; rw [hW5]; exact B4.out.alloc (by have := B4.out.size; omega) _
  have HG := Lib.hid hg
  have z5 : g ≤ W5.heap.size := by have := B5.out.size; omega
  clear hW5 K4 O4 O3 B4 hg s4 hlt2 hs2 s2 HGW
  generalize w4.heap.size = gs
  go_loopw [30] (fun i wr => ∃ k : Nat, k ≤ N ∧ i = .int .i64 k ∧ Hid (Below W5.heap.size W5 wr)) (fun i _ => N - (intOf i).toNat)
  case atStart => exact ⟨0, Nat.zero_le _, rfl, Below.refl _ _⟩
  case round =>
    obtain ⟨k, hk, rfl, hbel⟩ := hrel
    have KR := Lib.hid (K5.out.below hbel.out)
    have LR := Lib.hid (L5.out.below hbel.out)
    have PR := Lib.hid (P5.out.below hbel.out)
    have zr := hbel.out.size
    by_cases hlt : k < N
    · have hkL : k < L'.length := by have := HNL.out; omega
      have hkP : k < PP.length := by omega
      obtain ⟨b3, o3, rfl, hb3, hp0, hp1⟩ := at_box PR.out hkP
      obtain ⟨b2, o2, rfl, hb2, hl0, hl1⟩ := at_box LR.out hkL
      rw [HPT.out k hlt] at hp0 hp1
      obtain ⟨q1, q2, q3, q4⟩ := HPA.out k hlt
      obtain ⟨f1, f2, f3, f4⟩ := HF.out k
      have f9 := (HF'.out k).1
      obtain ⟨t1, t2, t3⟩ := HCO.out k hlt
      have hw0 := HW0.out
      have hs0 := HS0.out
      have HPJ : Hid (∀ j, j < k → (U : World) → Below W5.heap.size W5 U → (U.cell? ⟨b3, o3 + j * 2 + 1, none⟩ = some (.int .i64 (ptf j).2)) ∧ (U.cell? ⟨b2, o2 + j * 2 + 1, none⟩ = some (.int .i64 (L2.getD j (0, 0)).2)) ∧ 0 ≤ (ptf j).2 ∧ (ptf j).2 + (L2.getD j (0, 0)).2 ≤ 22000 ∧ 0 ≤ (L2.getD j (0, 0)).2 ∧ (L2.getD j (0, 0)).2 ≤ 1023) := fun j h0 U hU => by
        obtain ⟨_, _, heq, _, x0, x1⟩ := at_box (P5.out.below hU) (show j < PP.length by omega)
        injection heq with heq
        injection heq with he1 he2
        subst he1 he2
        obtain ⟨_, _, heq, _, y0, y1⟩ := at_box (L5.out.below hU) (show j < L'.length by omega)
        injection heq with heq
        injection heq with he1 he2
        subst he1 he2
        rw [HPT.out j (by omega)] at x1
        have h5 : (L2.getD j (0, 0)).2 = (L'.getD j (0, 0)).2 := by rw [HCM.out j (by omega)]
        obtain ⟨_, r2, _, r4⟩ := HPA.out j (by omega)
        obtain ⟨_, _, f5, f6⟩ := HF'.out j
        exact ⟨x1, by rw [h5]; exact y1, r2, r4, f5, f6⟩
      have hwm : IntKind.i64.wrap ((k : Int) % e * (qw + sp)) = (k : Int) % e * (qw + sp) := by rw [← t1, IntKind.wrap_i64]; omega
      have HT2 := Lib.hid t2
      have HT3 := Lib.hid t3
      clear t2 t3 f9 q3 q4
      obtain ⟨pk, hpk⟩ : ∃ pk, ptf k = pk := ⟨_, rfl⟩
      simp only [hpk] at hp0 hp1 t1 HT2 HT3 q1 q2
      obtain ⟨px, py⟩ := pk
      obtain ⟨bw, hbw⟩ : ∃ z, (L'.getD k (0, 0)).1 = z := ⟨_, rfl⟩
      obtain ⟨bh, hbh⟩ : ∃ z, (L'.getD k (0, 0)).2 = z := ⟨_, rfl⟩
      rw [hbw] at hl0
      rw [hbh] at hl1
      clear hbw hbh f1 f2 f3 f4
      simp only at hp0 hp1 t1 HT2 HT3 q1 q2
      subst t1
      have HK := Lib.hid hk
      have HPK := Lib.hid hpk
      clear hpk
      obtain ⟨px, hpx⟩ : ∃ px, px = (k : Int) % e * (qw + sp) := ⟨_, rfl⟩
      rw [← hpx] at hp0 hwm q1
      have HPX := Lib.hid hpx
      clear hpx
      go_wp2_with fail
      obtain ⟨U, hU⟩ : ∃ U, U = wr.alloc (.cells #[.int .i64 px, .int .i64 py] 73) := ⟨_, rfl⟩
      rw [← hU]
      have KU := Lib.hid (show Blk U g _ _ by rw [hU]; exact KR.out.alloc _)
      have QU := Lib.hid (show Blk U wr.heap.size _ _ by rw [hU]; exact Blk.new wr 73 #[.int .i64 px, .int .i64 py])
      have BU : Hid (Below W5.heap.size W5 U) := by show Below _ _ _; rw [hU]; exact hbel.out.alloc zr _
      have el0 : U.cell? ⟨b2, o2 + k * 2, none⟩ = some (.int .i64 bw) := by rw [hU]; exact Lib.cell?_alloc_some _ hl0
      have el1 : U.cell? ⟨b2, o2 + k * 2 + 1, none⟩ = some (.int .i64 bh) := by rw [hU]; exact Lib.cell?_alloc_some _ hl1
      obtain ⟨⟨d0, d1, d2, d3, d4⟩, _⟩ := KU.out.five
      obtain ⟨⟨g0, g1⟩, _⟩ := QU.out.two
      clear hp0 hp1 hl0 hl1 hU el0 el1
      have HPU := Lib.hid (fun j hj => HPJ.out j hj U BU.out)
      have c1 : IntKind.i64.wrap (qw + sp) = qw + sp := by rw [IntKind.wrap_i64]; omega
      have he := HE.out
      have hk0' : (0 : Int) ≤ (k : Int) := by omega
      have he0 : ¬ e = 0 := by omega
      generalize wr.heap.size = gp at *
      have ca1 : (px == px) = true := by simp
      have ca2 : (px != px) = false := by simp
      have hwm2 : wrap64 ((k : Int) % e * (qw + sp)) = px := by rw [← HPX.out]; rw [← IntWalk.i64_left]; exact hwm
      have HM1 : Hid (0 < (k : Int) % e → 0 < k) := fun h => by
        rcases Nat.eq_zero_or_pos k with h9 | h9
        · subst h9; simp at h
        · exact h9
      by_cases hB : e ≤ (k : Int)
      · obtain ⟨j, hj⟩ : ∃ j : Nat, (k : Int) = j + e := ⟨((k : Int) - e).toNat, by omega⟩
        have hjk : j < k := by omega
        obtain ⟨x1, y1, r1, r2, r3, r4⟩ := HPU.out j hjk
        have t2 := HT2.out j hj
        have w1 : IntKind.i64.wrap ((k : Int) - e) = (j : Int) := by rw [IntKind.wrap_i64]; omega
        generalize (ptf j).2 = qy at *
        generalize (L2.getD j (0, 0)).2 = sh at *
        have w2 : IntKind.i64.wrap (qy + sh) = qy + sh := by rw [IntKind.wrap_i64]; omega
        have bb : decide (e ≤ (k : Int)) = true := decide_eq_true hB
        have bc : decide (py < qy + sh) = false := decide_eq_false (by omega)
        have hjN : j < N := by omega
        clear hj
        by_cases hC : 0 < (k : Int) % e
        · have hk0 := HM1.out hC
          obtain ⟨k', hk'⟩ : ∃ k' : Nat, k' + 1 = k := ⟨k - 1, by omega⟩
          obtain ⟨x2, _, r5, r6, _⟩ := HPU.out k' (by omega)
          have t3 := HT3.out hC
          rw [show k - 1 = k' by omega] at t3
          rw [← t3] at x2
          have w3 : IntKind.i64.wrap ((k : Int) - 1) = (k' : Int) := by rw [IntKind.wrap_i64]; omega
          have cb : decide (0 < (k : Int) % e) = true := decide_eq_true hC
          have cc1 : (py == py) = true := by simp
          have cc2 : (py != py) = false := by simp
          have hk'N : k' < N := by omega
          clear t3 r5 r6 hk'
          go_big_quiet (fail)
          go_wp2_with fail
          go_roundw
          case rel => exact ⟨k + 1, by omega, by go_num, by first | exact BU.out | exact drewN_below' BU.out _ | exact drewN_below' (drewN_below' BU.out _) _⟩
          case measure => simp [intOf]; omega
        · have cb : decide (0 < (k : Int) % e) = false := decide_eq_false hC
          go_big_quiet (fail)
          go_wp2_with fail
          go_roundw
          case rel => exact ⟨k + 1, by omega, by go_num, by first | exact BU.out | exact drewN_below' BU.out _ | exact drewN_below' (drewN_below' BU.out _) _⟩
          case measure => simp [intOf]; omega
      · have bb : decide (e ≤ (k : Int)) = false := decide_eq_false hB
        by_cases hC : 0 < (k : Int) % e
        · have hk0 := HM1.out hC
          obtain ⟨k', hk'⟩ : ∃ k' : Nat, k' + 1 = k := ⟨k - 1, by omega⟩
          obtain ⟨x2, _, r5, r6, _⟩ := HPU.out k' (by omega)
          have t3 := HT3.out hC
          rw [show k - 1 = k' by omega] at t3
          rw [← t3] at x2
          have w3 : IntKind.i64.wrap ((k : Int) - 1) = (k' : Int) := by rw [IntKind.wrap_i64]; omega
          have cb : decide (0 < (k : Int) % e) = true := decide_eq_true hC
          have cc1 : (py == py) = true := by simp
          have cc2 : (py != py) = false := by simp
          have hk'N : k' < N := by omega
          clear t3 r5 r6 hk'
          go_big_quiet (fail)
          go_wp2_with fail
          go_roundw
          case rel => exact ⟨k + 1, by omega, by go_num, by first | exact BU.out | exact drewN_below' BU.out _ | exact drewN_below' (drewN_below' BU.out _) _⟩
          case measure => simp [intOf]; omega
        · have cb : decide (0 < (k : Int) % e) = false := decide_eq_false hC
          go_big_quiet (fail)
          go_wp2_with fail
          go_roundw
          case rel => exact ⟨k + 1, by omega, by go_num, by first | exact BU.out | exact drewN_below' BU.out _ | exact drewN_below' (drewN_below' BU.out _) _⟩
          case measure => simp [intOf]; omega
    · obtain rfl : k = N := by omega
      go_wp2_with fail
      go_ret
      exact ⟨rfl, by rw [HG.out]; exact B5.out.trans (hbel.out.mono z5)⟩
end Go.Proofs.Ytjpdnnjijcmioaa
