/- Contract of FlowFits. -/
import Derived.Test.YtjpdnnjijcmioaaFlOpen
import Derived.BigQuiet
namespace Go.Proofs.Ytjpdnnjijcmioaa
open Go.RowKit M Fl
attribute [-go_sem] Builtin.append_
set_option maxHeartbeats 8000000 in
set_option maxRecDepth 100000 in
theorem FlowFits_any (kind width cols gap : Int) (A : Option Addr) (n c : Nat) (L : List Bx) (w : World) (hbx : BoxesIn w A n c L) :
    Calls Try.prog 10 #[.agg #[.int .i64 kind, .int .i64 width, .int .i64 cols, .int .i64 gap, .slice A n c]] w fun e w' => e = .returned (.bool true) ∧ Below w.heap.size w w' := by
  obtain ⟨hn, hnc, hcm, ha⟩ := hbx
  have HN := Lib.hid hn
  have HA := Lib.hid ha
  have HM := Lib.hid (show n ≤ maxLen by omega)
  clear hn ha hnc hcm
  go_enter Try.func10, Try.ntmps10
  go_wp2_with (go_at_call 33; refine (awake14_any _).mono ?_; rintro e w1 ⟨rfl, hb1⟩; have K1 := Lib.hid ((Blk.new w _ _).below hb1); have B1 := Lib.hid ((below_alloc w _).trans (hb1.mono (by rw [size_alloc]; omega))); clear hb1; obtain ⟨⟨d0, d1, d2, d3, d4⟩, u0, u1, u2, u3, u4⟩ := K1.out.five)
  refine (small_any kind width cols gap A n c L _ HN.out HM.out (HA.out.below B1.out)).mono ?_
  rintro e w2 ⟨v2, rfl, hown2, hb2⟩
  have hN20 : min n 20 ≤ 20 := by omega
  have hNL : min n 20 = (sml (L.take 20)).length := by rw [sml_len, List.length_take, HN.out]; omega
  have hF := sml_few (L.take 20)
  generalize min n 20 = N at *
  generalize sml (L.take 20) = L' at *
  obtain ⟨A2, c2, rfl, hc2, hm2⟩ := own_slice hown2
  have hgw : w.heap.size < w1.heap.size := K1.out.lt
  have K2 := Lib.hid (K1.out.below hb2)
  have B2 := Lib.hid (B1.out.trans (hb2.mono B1.out.size))
  have O2 := Lib.hid hown2
  have HF := Lib.hid hF
  have HNL := Lib.hid hNL
  have HGW := Lib.hid hgw
  have s2 := Lib.hid hb2.size
  clear hown2 hb2 d0 d1 d2 d3 d4 u0 u1 u2 u3 u4 hF hNL hgw K1
  obtain ⟨⟨d0, d1, d2, d3, d4⟩, u0, u1, u2, u3, u4⟩ := K2.out.five
  have hw0 : 0 ≤ width % 2048 ∧ width % 2048 ≤ 2047 := by omega
  have hs0 : 0 ≤ gap % 16 ∧ gap % 16 ≤ 15 := by omega
  generalize width % 2048 = qw at *
  generalize gap % 16 = sp at *
  go_wp2_with fail
  clear d0 d1 d2 d3 d4 u0 u1 u2 u3 u4
  have hlt2 : w.heap.size < w1.heap.size := HGW.out
  have hs2 : w1.heap.size ≤ w2.heap.size := s2.out
  refine Calls.mono (put_any 1 qw cols sp A2 N c2 L' _ HNL.out (by unfold maxLen; omega) (At.own (base := w1.heap.size) (e := 68) (size := 2) (n := N) (cap := c2) ?_)) ?_
  · iterate 6 refine own_other ?_ _ _ _ (by omega)
    exact O2.out
  rintro e w4 ⟨v3, rfl, hown3, hb4⟩
  have K4 : Hid (Blk w4 w.heap.size 61 #[.int .i64 1, .int .i64 qw, .int .i64 cols, .int .i64 sp, .slice A2 N c2]) := by
    show Blk _ _ _ _
    refine Blk.below (w := _) ?_ hb4
    exact ((((((K2.out.set 0 _).set 1 _).set 2 _).set 3 _).set 4 _).set 0 _)
  have O4 : Hid (w4.ownsRow w1.heap.size 68 2 (.slice A2 N c2) N (cc L')) := by
    show World.ownsRow _ _ _ _ _ _ _
    refine own_below (w := _) ?_ hb4
    iterate 6 refine own_other ?_ _ _ _ (by omega)
    exact O2.out
  have B4 : Hid (Below w.heap.size w w4) := by
    show Below _ _ _
    refine Below.trans (b := _) ?_ (hb4.mono ?_)
    · iterate 6 refine below_setg ?_ _ _ _ (Nat.le_refl _) (by (try simp only [setCell_size']); omega)
      exact B2.out
    · (try simp only [setCell_size']); omega
  have s4 := hb4.size
  simp only [setCell_size'] at s4 hown3
  rw [show min N 40 = N by omega, show L'.take 40 = L' from List.take_of_length_le (by rw [← HNL.out]; omega), ln_small hs0.1 (by omega), bgK1, bxK01 qw L' (.inr rfl)] at hown3
  rw [show min N 40 = N by omega, show L'.take 40 = L' from List.take_of_length_le (by rw [← HNL.out]; omega), ln_small hs0.1 (by omega), bgK1, bxK01 qw L' (.inr rfl)]
  clear hb4 K2 O2 B2 B1
  have HF' := HF
  have HFI := Lib.hid (fun (i : Nat) (hi : i ≤ 40) => fits hw0.1 hw0.2 hs0.1 hs0.2 HF.out hi)
  have hWi := within (sp := sp) (bg := bgW qw) (q := 1023) (by omega) (by omega) hs0.1 hs0.2 HF'.out N (by omega)
  have hPa := past (sp := sp) (bg := bgW qw) (q := 1023) (by omega) (by omega) hs0.1 hs0.2 HF'.out N (by omega)
  unfold Past at hPa
  have HPT := Lib.hid (fun (k : Nat) (h : k < N) => pts_at sp (bgW qw) L' N k h)
  have hPL : (pts sp (bgW qw) L' N).length = N := pts_len _ _ _ _
  generalize pts sp (bgW qw) L' N = PP at *
  obtain ⟨W0, W1, _, _, _, W2, W3⟩ := hWi
  have hHH : 0 ≤ (run sp (bgW qw) L' N).2.2.2 := by omega
  generalize (run sp (bgW qw) L' N).2.2.1 = WW at *
  generalize (run sp (bgW qw) L' N).2.2.2 = HH at *
  have HPA : Hid (∀ j : Nat, j < N → 0 ≤ (pt sp (bgW qw) L' j).1 ∧ 0 ≤ (pt sp (bgW qw) L' j).2 ∧ (pt sp (bgW qw) L' j).1 + (L'.getD j (0, 0)).1 ≤ 42000 ∧ (pt sp (bgW qw) L' j).2 + (L'.getD j (0, 0)).2 ≤ 22000) := fun j hj => by
    obtain ⟨a, b, c, d, _⟩ := hPa j hj
    exact ⟨a, b, by omega, by omega⟩
  generalize pt sp (bgW qw) L' = ptf at *
  have HS0 := Lib.hid hs0
  have HW0 := Lib.hid hw0
  clear hPa W1 W3 W0 W2 hHH
  obtain ⟨A3, c3, rfl, hc3, hm3⟩ := own_slice hown3
  have O3 := Lib.hid hown3
  clear hown3
  obtain ⟨⟨d0, d1, d2, d3, d4⟩, u0, u1, u2, u3, u4⟩ := (K4.out.alloc (.cells #[.int .i64 WW, .int .i64 HH] 64)).five
  clear hs0 hw0
  go_wp2_with fail
  clear d0 d1 d2 d3 d4 u0 u1 u2 u3 u4
  generalize hg : w.heap.size = g at *
  have hW5 : ∃ W5, W5 = w4.alloc (.cells #[.int .i64 WW, .int .i64 HH] 64) := ⟨_, rfl⟩
  obtain ⟨W5, hW5⟩ := hW5
  rw [← hW5]
  have K5 := Lib.hid (show Blk W5 g _ _ by rw [hW5]; exact K4.out.alloc _)
  have L5 : Hid (At W5 A2 (cc L')) := by show At _ _ _; rw [hW5]; exact (At.own O4.out).alloc _
  have P5 : Hid (At W5 A3 (cc PP)) := by show At _ _ _; rw [hW5]; exact (At.own O3.out).alloc _
  have B5 : Hid (Below g w W5) := by show Below _ _ _; rw [hW5]; exact B4.out.alloc (by have := B4.out.size; omega) _
  have HG := Lib.hid hg
  have z5 : g ≤ W5.heap.size := by have := B5.out.size; omega
  clear hW5 K4 O4 O3 B4 hg s4 hlt2 hs2 s2 HGW
  generalize w4.heap.size = gs
  go_loopw [25] (fun i wr => ∃ k : Nat, k ≤ N ∧ i = .int .i64 k ∧ Hid (Below W5.heap.size W5 wr)) (fun i _ => N - (intOf i).toNat)
  case atStart => exact ⟨0, Nat.zero_le _, rfl, Below.refl _ _⟩
  case round =>
    obtain ⟨k, hk, rfl, hbel⟩ := hrel
    have KR := Lib.hid (K5.out.below hbel.out)
    have LR := Lib.hid (L5.out.below hbel.out)
    have PR := Lib.hid (P5.out.below hbel.out)
    have zr := hbel.out.size
    by_cases hlt : k < N
    · have hkL : k < L'.length := by have := HNL.out; omega
      have hkP : k < PP.length := by omega
      obtain ⟨b3, o3, rfl, hb3, hp0, hp1⟩ := at_box PR.out hkP
      obtain ⟨b2, o2, rfl, hb2, hl0, hl1⟩ := at_box LR.out hkL
      rw [HPT.out k hlt] at hp0 hp1
      obtain ⟨q1, q2, q3, q4⟩ := HPA.out k hlt
      obtain ⟨f1, f2, f3, f4⟩ := HF.out k
      obtain ⟨t1, t2⟩ := HFI.out k (by omega)
      have hw0 := HW0.out
      have hs0 := HS0.out
      have HP0 : Hid (0 < k → (U : World) → Below W5.heap.size W5 U → (U.cell? ⟨b3, o3 + (k - 1) * 2, none⟩ = some (.int .i64 (ptf (k - 1)).1) ∧ U.cell? ⟨b3, o3 + (k - 1) * 2 + 1, none⟩ = some (.int .i64 (ptf (k - 1)).2)) ∧ (U.cell? ⟨b2, o2 + (k - 1) * 2, none⟩ = some (.int .i64 (L'.getD (k - 1) (0, 0)).1) ∧ U.cell? ⟨b2, o2 + (k - 1) * 2 + 1, none⟩ = some (.int .i64 (L'.getD (k - 1) (0, 0)).2))) := fun h0 U hU => by
        obtain ⟨_, _, heq, _, x0, x1⟩ := at_box (P5.out.below hU) (show k - 1 < PP.length by omega)
        injection heq with heq
        injection heq with he1 he2
        subst he1 he2
        obtain ⟨_, _, heq, _, y0, y1⟩ := at_box (L5.out.below hU) (show k - 1 < L'.length by omega)
        injection heq with heq
        injection heq with he1 he2
        subst he1 he2
        rw [HPT.out (k - 1) (by omega)] at x0 x1
        exact ⟨⟨x0, x1⟩, y0, y1⟩
      have HPB : Hid (0 < k → 0 ≤ (ptf (k - 1)).1 ∧ 0 ≤ (ptf (k - 1)).2 ∧ (ptf (k - 1)).1 + (L'.getD (k - 1) (0, 0)).1 ≤ 42000 ∧ (ptf (k - 1)).2 + (L'.getD (k - 1) (0, 0)).2 ≤ 22000) := fun h0 => HPA.out (k - 1) (by omega)
      have HPF := Lib.hid (HF.out (k - 1))
      generalize ptf (k - 1) = pq at *
      generalize L'.getD (k - 1) (0, 0) = bq at *
      generalize ptf k = pk at *
      generalize L'.getD k (0, 0) = bk at *
      obtain ⟨px, py⟩ := pk
      obtain ⟨bw, bh⟩ := bk
      obtain ⟨qx, qy⟩ := pq
      obtain ⟨sw, sh⟩ := bq
      simp only at hp0 hp1 hl0 hl1 q1 q2 q3 q4 f1 f2 f3 f4 t1 t2 HP0 HPB HPF
      have HK := Lib.hid hk
      go_wp2_with fail
      obtain ⟨U, hU⟩ : ∃ U, U = wr.alloc (.cells #[.int .i64 px, .int .i64 py] 73) := ⟨_, rfl⟩
      rw [← hU]
      have KU := Lib.hid (show Blk U g _ _ by rw [hU]; exact KR.out.alloc _)
      have QU := Lib.hid (show Blk U wr.heap.size _ _ by rw [hU]; exact Blk.new wr 73 #[.int .i64 px, .int .i64 py])
      have BU : Hid (Below W5.heap.size W5 U) := by show Below _ _ _; rw [hU]; exact hbel.out.alloc zr _
      have el0 : U.cell? ⟨b2, o2 + k * 2, none⟩ = some (.int .i64 bw) := by rw [hU]; exact Lib.cell?_alloc_some _ hl0
      have el1 : U.cell? ⟨b2, o2 + k * 2 + 1, none⟩ = some (.int .i64 bh) := by rw [hU]; exact Lib.cell?_alloc_some _ hl1
      obtain ⟨⟨d0, d1, d2, d3, d4⟩, _⟩ := KU.out.five
      obtain ⟨⟨g0, g1⟩, _⟩ := QU.out.two
      have HPU := Lib.hid (fun h0 => HP0.out h0 U BU.out)
      clear hp0 hp1 hl0 hl1 hU
      have HL0 := Lib.hid el0
      have HL1 := Lib.hid el1
      have c1 : IntKind.i64.wrap (px + bw) = px + bw := by rw [IntKind.wrap_i64]; omega
      generalize wr.heap.size = gp at *
      have key : ∀ V : World, V.heap = U.heap → V.cell? ⟨b2, o2 + k * 2, none⟩ = some (.int .i64 bw) := fun V hV => cell_heap el0 hV
      by_cases hpx : 0 < px
      · have c2' : decide (0 < px) = true := decide_eq_true hpx
        have c3' : decide (qw < px + bw) = false := decide_eq_false (fun h => t1 ⟨hpx, h⟩)
        go_big_quiet (fail)
        clear key
        clear d0 d1 d2 d3 d4 g0 g1 el0 el1 c1
        obtain ⟨U2, hU2⟩ : ∃ U2, U2 = U.drewN nq := ⟨_, rfl⟩
        have KV := Lib.hid (show Blk U2 g _ _ by rw [hU2]; exact KU.out)
        have QV := Lib.hid (show Blk U2 gp _ _ by rw [hU2]; exact QU.out)
        have BV : Hid (Below W5.heap.size W5 U2) := by show Below _ _ _; rw [hU2]; exact drewN_below' BU.out _
        have ek0 : U2.cell? ⟨b2, o2 + k * 2, none⟩ = some (.int .i64 bw) := by rw [hU2]; exact HL0.out
        rw [← hU2]
        have HPV := Lib.hid (fun h0 => HP0.out h0 U2 BV.out)
        clear hU2 HPU
        obtain ⟨⟨d0, d1, d2, d3, d4⟩, _⟩ := KV.out.five
        obtain ⟨⟨g0, g1⟩, _⟩ := QV.out.two
        go_wp2_with fail
        by_cases hk0 : 0 < k
        · have kb : decide (0 < k) = true := decide_eq_true hk0
          have hb1 := HPB.out hk0
          obtain ⟨⟨x0, x1⟩, y0, y1⟩ := HPV.out hk0
          have hbf := HPF.out
          have t3 := t2 hk0
          obtain ⟨k', hk'⟩ : ∃ k' : Nat, k' + 1 = k := ⟨k - 1, by omega⟩
          rw [show k - 1 = k' by omega] at x0 x1 y0 y1
          have e1 : IntKind.i64.wrap ((k : Int) - 1) = (k' : Int) := by rw [IntKind.wrap_i64]; omega
          have e2 : IntKind.i64.wrap (qx + sw) = qx + sw := by rw [IntKind.wrap_i64]; omega
          have e3 : IntKind.i64.wrap (qx + sw + sp) = qx + sw + sp := by rw [IntKind.wrap_i64]; omega
          have e4 : IntKind.i64.wrap (qx + sw + sp + bw) = qx + sw + sp + bw := by rw [IntKind.wrap_i64]; omega
          have hk'N : k' < N := by omega
          have HKK := Lib.hid hk'
          clear hk' t2
          have hx : ¬ px = 0 := by omega
          have b1 : (px == 0) = false := by simpa using hx
          have b2' : decide (px = 0) = false := decide_eq_false hx
          go_big_quiet (fail)
          go_wp2_with fail
          go_roundw
          case rel => exact ⟨k + 1, by omega, by go_num, by first | exact BV.out | exact drewN_below' BV.out _ | exact drewN_below' (drewN_below' BV.out _) _⟩
          case measure => simp [intOf]; omega
        · have kb : decide (0 < k) = false := decide_eq_false hk0
          go_big_quiet (fail)
          go_wp2_with fail
          go_roundw
          case rel => exact ⟨k + 1, by omega, by go_num, by first | exact BV.out | exact drewN_below' BV.out _ | exact drewN_below' (drewN_below' BV.out _) _⟩
          case measure => simp [intOf]; omega
      · have c2' : decide (0 < px) = false := decide_eq_false hpx
        go_big_quiet (fail)
        clear key
        clear d0 d1 d2 d3 d4 g0 g1 el0 el1 c1
        obtain ⟨U2, hU2⟩ : ∃ U2, U2 = U.drewN nq := ⟨_, rfl⟩
        have KV := Lib.hid (show Blk U2 g _ _ by rw [hU2]; exact KU.out)
        have QV := Lib.hid (show Blk U2 gp _ _ by rw [hU2]; exact QU.out)
        have BV : Hid (Below W5.heap.size W5 U2) := by show Below _ _ _; rw [hU2]; exact drewN_below' BU.out _
        have ek0 : U2.cell? ⟨b2, o2 + k * 2, none⟩ = some (.int .i64 bw) := by rw [hU2]; exact HL0.out
        rw [← hU2]
        have HPV := Lib.hid (fun h0 => HP0.out h0 U2 BV.out)
        clear hU2 HPU
        obtain ⟨⟨d0, d1, d2, d3, d4⟩, _⟩ := KV.out.five
        obtain ⟨⟨g0, g1⟩, _⟩ := QV.out.two
        go_wp2_with fail
        by_cases hk0 : 0 < k
        · have kb : decide (0 < k) = true := decide_eq_true hk0
          have hb1 := HPB.out hk0
          obtain ⟨⟨x0, x1⟩, y0, y1⟩ := HPV.out hk0
          have hbf := HPF.out
          have t3 := t2 hk0
          obtain ⟨k', hk'⟩ : ∃ k' : Nat, k' + 1 = k := ⟨k - 1, by omega⟩
          rw [show k - 1 = k' by omega] at x0 x1 y0 y1
          have e1 : IntKind.i64.wrap ((k : Int) - 1) = (k' : Int) := by rw [IntKind.wrap_i64]; omega
          have e2 : IntKind.i64.wrap (qx + sw) = qx + sw := by rw [IntKind.wrap_i64]; omega
          have e3 : IntKind.i64.wrap (qx + sw + sp) = qx + sw + sp := by rw [IntKind.wrap_i64]; omega
          have e4 : IntKind.i64.wrap (qx + sw + sp + bw) = qx + sw + sp + bw := by rw [IntKind.wrap_i64]; omega
          have hk'N : k' < N := by omega
          have HKK := Lib.hid hk'
          clear hk' t2
          have hx : px = 0 := by omega
          have b1 : (px == 0) = true := by simpa using hx
          have b2' : decide (px = 0) = true := decide_eq_true hx
          by_cases hy : qy < py
          · have b3' : decide (qy < py) = true := decide_eq_true hy
            have b4 : decide (qx + sw + sp + bw ≤ qw) = false := decide_eq_false (fun h => t3 ⟨hx, hy, h⟩)
            go_big_quiet (fail)
            go_wp2_with fail
            go_roundw
            case rel => exact ⟨k + 1, by omega, by go_num, by first | exact BV.out | exact drewN_below' BV.out _ | exact drewN_below' (drewN_below' BV.out _) _⟩
            case measure => simp [intOf]; omega
          · have b3' : decide (qy < py) = false := decide_eq_false hy
            go_big_quiet (fail)
            go_wp2_with fail
            go_roundw
            case rel => exact ⟨k + 1, by omega, by go_num, by first | exact BV.out | exact drewN_below' BV.out _ | exact drewN_below' (drewN_below' BV.out _) _⟩
            case measure => simp [intOf]; omega
        · have kb : decide (0 < k) = false := decide_eq_false hk0
          go_big_quiet (fail)
          go_wp2_with fail
          go_roundw
          case rel => exact ⟨k + 1, by omega, by go_num, by first | exact BV.out | exact drewN_below' BV.out _ | exact drewN_below' (drewN_below' BV.out _) _⟩
          case measure => simp [intOf]; omega
    · obtain rfl : k = N := by omega
      go_wp2_with fail
      go_ret
      exact ⟨rfl, by rw [HG.out]; exact B5.out.trans (hbel.out.mono z5)⟩
end Go.Proofs.Ytjpdnnjijcmioaa
