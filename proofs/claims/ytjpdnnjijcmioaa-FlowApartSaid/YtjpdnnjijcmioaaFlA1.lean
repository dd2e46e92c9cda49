/- Contracts of FlowApart, FlowFits, FlowColumns. -/
import Derived.Test.YtjpdnnjijcmioaaFlOpen
import Derived.BigQuiet
import Derived.IntWalk
namespace Go.Proofs.Ytjpdnnjijcmioaa
open Go.RowKit M Fl
attribute [-go_sem] Builtin.append_
set_option maxHeartbeats 8000000 in
set_option maxRecDepth 100000 in
theorem FlowApart_any (kind width cols gap : Int) (A : Option Addr) (n c : Nat) (L : List Bx) (w : World) (hbx : BoxesIn w A n c L) :
    Calls Try.prog 9 #[.agg #[.int .i64 kind, .int .i64 width, .int .i64 cols, .int .i64 gap, .slice A n c]] w fun e w' => e = .returned (.bool true) ∧ Below w.heap.size w w' := by
  obtain ⟨hn, hnc, hcm, ha⟩ := hbx
  have HN := Lib.hid hn
  have HA := Lib.hid ha
  have HM := Lib.hid (show n ≤ maxLen by omega)
  clear hn ha hnc hcm
  go_enter Try.func9, Try.ntmps9
  go_wp2_with (go_at_call 33; refine (awake14_any _).mono ?_; rintro e w1 ⟨rfl, hb1⟩; have K1 := Lib.hid ((Blk.new w _ _).below hb1); have B1 := Lib.hid ((below_alloc w _).trans (hb1.mono (by rw [size_alloc]; omega))); clear hb1; obtain ⟨⟨d0, d1, d2, d3, d4⟩, u0, u1, u2, u3, u4⟩ := K1.out.five)
  refine (small_any kind width cols gap A n c L _ HN.out HM.out (HA.out.below B1.out)).mono ?_
  rintro e w2 ⟨v2, rfl, hown2, hb2⟩
  have hN20 : min n 20 ≤ 20 := by omega
  have hNL : min n 20 = (sml (L.take 20)).length := by rw [sml_len, List.length_take, HN.out]; omega
  have hF := sml_few (L.take 20)
  generalize min n 20 = N at *
  generalize sml (L.take 20) = L' at *
  obtain ⟨A2, c2, rfl, hc2, hm2⟩ := own_slice hown2
  have hgw : w.heap.size < w1.heap.size := K1.out.lt
  have K2 := Lib.hid (K1.out.below hb2)
  have B2 := Lib.hid (B1.out.trans (hb2.mono B1.out.size))
  have O2 := Lib.hid hown2
  have HF := Lib.hid hF
  have HNL := Lib.hid hNL
  have HGW := Lib.hid hgw
  have s2 := Lib.hid hb2.size
  clear hown2 hb2 d0 d1 d2 d3 d4 u0 u1 u2 u3 u4 hF hNL hgw K1
  obtain ⟨⟨d0, d1, d2, d3, d4⟩, u0, u1, u2, u3, u4⟩ := K2.out.five
  have m1 := mask_1 kind
  have hkk : kind % 2 = 0 ∨ kind % 2 = 1 := by omega
  generalize kind % 2 = kk at *
  have hw0 : 0 ≤ width % 2048 ∧ width % 2048 ≤ 2047 := by omega
  have hs0 : 0 ≤ gap % 16 ∧ gap % 16 ≤ 15 := by omega
  generalize width % 2048 = qw at *
  generalize gap % 16 = sp at *
  go_wp2_with fail
  clear d0 d1 d2 d3 d4 u0 u1 u2 u3 u4
  have hlt2 : w.heap.size < w1.heap.size := HGW.out
  have hs2 : w1.heap.size ≤ w2.heap.size := s2.out
  refine Calls.mono (put_any kk qw cols sp A2 N c2 L' _ HNL.out (by unfold maxLen; omega) (At.own (base := w1.heap.size) (e := 68) (size := 2) (n := N) (cap := c2) ?_)) ?_
  · iterate 6 refine own_other ?_ _ _ _ (by omega)
    exact O2.out
  rintro e w4 ⟨v3, rfl, hown3, hb4⟩
  have K4 : Hid (Blk w4 w.heap.size 61 #[.int .i64 kk, .int .i64 qw, .int .i64 cols, .int .i64 sp, .slice A2 N c2]) := by
    show Blk _ _ _ _
    refine Blk.below (w := _) ?_ hb4
    exact ((((((K2.out.set 0 _).set 1 _).set 2 _).set 3 _).set 4 _).set 0 _)
  have O4 : Hid (w4.ownsRow w1.heap.size 68 2 (.slice A2 N c2) N (cc L')) := by
    show World.ownsRow _ _ _ _ _ _ _
    refine own_below (w := _) ?_ hb4
    iterate 6 refine own_other ?_ _ _ _ (by omega)
    exact O2.out
  have B4 : Hid (Below w.heap.size w w4) := by
    show Below _ _ _
    refine Below.trans (b := _) ?_ (hb4.mono ?_)
    · iterate 6 refine below_setg ?_ _ _ _ (Nat.le_refl _) (by (try simp only [setCell_size']); omega)
      exact B2.out
    · (try simp only [setCell_size']); omega
  have s4 := hb4.size
  simp only [setCell_size'] at s4 hown3
  rw [show min N 40 = N by omega, show L'.take 40 = L' from List.take_of_length_le (by rw [← HNL.out]; omega), ln_small hs0.1 (by omega), bxK01 qw L' hkk] at hown3
  rw [show min N 40 = N by omega, show L'.take 40 = L' from List.take_of_length_le (by rw [← HNL.out]; omega), ln_small hs0.1 (by omega), bxK01 qw L' hkk]
  clear hb4 K2 O2 B2 B1
  generalize bgK kk qw cols = bg at *
  have hWi := within (sp := sp) (bg := bg) (q := 1023) (by omega) (by omega) hs0.1 hs0.2 HF.out N (by omega)
  have hPa := past (sp := sp) (bg := bg) (q := 1023) (by omega) (by omega) hs0.1 hs0.2 HF.out N (by omega)
  unfold Past at hPa
  have HAP := Lib.hid (fun (i j : Nat) (hi : i ≤ 40) (hj : j < i) => apart (sp := sp) (bg := bg) (q := 1023) (by omega) (by omega) hs0.1 hs0.2 HF.out hi hj)
  have HPT := Lib.hid (fun (k : Nat) (h : k < N) => pts_at sp bg L' N k h)
  have hPL : (pts sp bg L' N).length = N := pts_len _ _ _ _
  generalize pts sp bg L' N = PP at *
  obtain ⟨W0, W1, _, _, _, W2, W3⟩ := hWi
  have hHH : 0 ≤ (run sp bg L' N).2.2.2 := by omega
  generalize (run sp bg L' N).2.2.1 = WW at *
  generalize (run sp bg L' N).2.2.2 = HH at *
  have HPA : Hid (∀ j : Nat, j < N → 0 ≤ (pt sp bg L' j).1 ∧ 0 ≤ (pt sp bg L' j).2 ∧ (pt sp bg L' j).1 + (L'.getD j (0, 0)).1 ≤ WW ∧ (pt sp bg L' j).2 + (L'.getD j (0, 0)).2 ≤ HH) := fun j hj => by
    obtain ⟨a, b, c, d, _⟩ := hPa j hj
    exact ⟨a, b, c, d⟩
  generalize pt sp bg L' = ptf at *
  have HWB := Lib.hid (show WW ≤ 42000 ∧ HH ≤ 22000 by omega)
  clear hPa W1 W3 hw0 hs0 W0 W2 hHH
  obtain ⟨A3, c3, rfl, hc3, hm3⟩ := own_slice hown3
  have O3 := Lib.hid hown3
  clear hown3
  obtain ⟨⟨d0, d1, d2, d3, d4⟩, u0, u1, u2, u3, u4⟩ := (K4.out.alloc (.cells #[.int .i64 WW, .int .i64 HH] 64)).five
  go_wp2_with fail
  clear d0 d1 d2 d3 d4 u0 u1 u2 u3 u4
  generalize hgs : w4.heap.size = gs at *
  generalize hg : w.heap.size = g at *
  have hW5 : ∃ W5, W5 = w4.alloc (.cells #[.int .i64 WW, .int .i64 HH] 64) := ⟨_, rfl⟩
  obtain ⟨W5, hW5⟩ := hW5
  rw [← hW5]
  have K5 : Hid (Blk W5 g 61 #[.int .i64 kk, .int .i64 qw, .int .i64 cols, .int .i64 sp, .slice A2 N c2]) := by show Blk _ _ _ _; rw [hW5]; exact K4.out.alloc _
  have S5 : Hid (Blk W5 gs 64 #[.int .i64 WW, .int .i64 HH]) := by show Blk _ _ _ _; rw [hW5]; exact Blk.new' _ _ _ _ hgs
  have L5 : Hid (At W5 A2 (cc L')) := by show At _ _ _; rw [hW5]; exact (At.own O4.out).alloc _
  have P5 : Hid (At W5 A3 (cc PP)) := by show At _ _ _; rw [hW5]; exact (At.own O3.out).alloc _
  have B5 : Hid (Below g w W5) := by show Below _ _ _; rw [hW5]; exact B4.out.alloc (by have := B4.out.size; omega) _
  have HG := Lib.hid hg
  have z5 : g ≤ W5.heap.size := by have := B5.out.size; omega
  clear hW5 K4 O4 O3 B4 hg hgs s4 hlt2 hs2 s2 HGW m1
  go_loopw [30] (fun i wr => ∃ k : Nat, k ≤ N ∧ i = .int .i64 k ∧ Hid (Below W5.heap.size W5 wr)) (fun i _ => N - (intOf i).toNat)
  case atStart => exact ⟨0, Nat.zero_le _, rfl, Below.refl _ _⟩
  case round =>
    obtain ⟨k, hk, rfl, hbel⟩ := hrel
    have KR := Lib.hid (K5.out.below hbel.out)
    have SR := Lib.hid (S5.out.below hbel.out)
    have LR := Lib.hid (L5.out.below hbel.out)
    have PR := Lib.hid (P5.out.below hbel.out)
    have zr := hbel.out.size
    by_cases hlt : k < N
    · have hkL : k < L'.length := by have := HNL.out; omega
      have hkP : k < PP.length := by omega
      obtain ⟨b3, o3, rfl, hb3, hp0, hp1⟩ := at_box PR.out hkP
      obtain ⟨b2, o2, rfl, hb2, hl0, hl1⟩ := at_box LR.out hkL
      rw [HPT.out k hlt] at hp0 hp1
      obtain ⟨q1, q2, q3, q4⟩ := HPA.out k hlt
      obtain ⟨f1, f2, f3, f4⟩ := HF.out k
      have HAK := Lib.hid (fun j hj => HAP.out k j (by omega) hj)
      generalize ptf k = pk at *
      obtain ⟨bk, hbk⟩ : ∃ bk, L'.getD k (0, 0) = bk := ⟨_, rfl⟩
      simp only [hbk] at hl0 hl1 q3 q4 f1 f2 f3 f4 HAK
      obtain ⟨px, py⟩ := pk
      obtain ⟨bw, bh⟩ := bk
      have HBK := Lib.hid hbk
      clear hbk
      simp only at hp0 hp1 hl0 hl1 q1 q2 q3 q4 f1 f2 f3 f4 HAK
      have hWB := HWB.out
      have HK := Lib.hid hk
      go_wp2_with fail
      obtain ⟨U, hU⟩ : ∃ U, U = wr.alloc (.cells #[.int .i64 px, .int .i64 py] 73) := ⟨_, rfl⟩
      rw [← hU]
      have KU := Lib.hid (show Blk U g _ _ by rw [hU]; exact KR.out.alloc _)
      have SU := Lib.hid (show Blk U gs _ _ by rw [hU]; exact SR.out.alloc _)
      have QU := Lib.hid (show Blk U wr.heap.size _ _ by rw [hU]; exact Blk.new wr 73 #[.int .i64 px, .int .i64 py])
      have BU : Hid (Below W5.heap.size W5 U) := by show Below _ _ _; rw [hU]; exact hbel.out.alloc zr _
      have el0 : U.cell? ⟨b2, o2 + k * 2, none⟩ = some (.int .i64 bw) := by rw [hU]; exact Lib.cell?_alloc_some _ hl0
      have el1 : U.cell? ⟨b2, o2 + k * 2 + 1, none⟩ = some (.int .i64 bh) := by rw [hU]; exact Lib.cell?_alloc_some _ hl1
      obtain ⟨⟨d0, d1, d2, d3, d4⟩, _⟩ := KU.out.five
      obtain ⟨⟨e0, e1⟩, _⟩ := SU.out.two
      obtain ⟨⟨g0, g1⟩, _⟩ := QU.out.two
      clear hp0 hp1 hl0 hl1 hU
      have HL0 := Lib.hid el0
      have HL1 := Lib.hid el1
      have c1 : decide (px < 0) = false := decide_eq_false (by omega)
      have c2' : decide (py < 0) = false := decide_eq_false (by omega)
      have c3' : IntKind.i64.wrap (px + bw) = px + bw := by rw [IntKind.wrap_i64]; omega
      have c4 : IntKind.i64.wrap (py + bh) = py + bh := by rw [IntKind.wrap_i64]; omega
      have c5 : decide (WW < px + bw) = false := decide_eq_false (by omega)
      have c6 : decide (HH < py + bh) = false := decide_eq_false (by omega)
      generalize wr.heap.size = gp at *
      go_big_quiet (fail)
      obtain ⟨U2, hU2⟩ : ∃ U2, U2 = U.drewN nq := ⟨_, rfl⟩
      have KV := Lib.hid (show Blk U2 g _ _ by rw [hU2]; exact KU.out)
      have QV := Lib.hid (show Blk U2 gp _ _ by rw [hU2]; exact QU.out)
      have BV : Hid (Below W5.heap.size W5 U2) := by show Below _ _ _; rw [hU2]; exact drewN_below' BU.out _
      have LV := Lib.hid (L5.out.below BV.out)
      have PV := Lib.hid (P5.out.below BV.out)
      rw [← hU2]
      clear d0 d1 d2 d3 d4 e0 e1 g0 g1 el0 el1 c1 c2' c3' c4 c5 c6 KU SU QU BU hU2 HL0 HL1
      have hkc : k ≤ c3 := by omega
      go_wp2_with fail
      go_loopw [75] (fun i wr2 => ∃ j : Nat, j ≤ k ∧ i = .int .i64 j ∧ Hid (Below U2.heap.size U2 wr2)) (fun i _ => k - (intOf i).toNat)
      case atStart => exact ⟨0, Nat.zero_le _, rfl, Below.refl _ _⟩
      case round =>
        obtain ⟨j, hj, rfl, hbel2⟩ := hrel
        have KX := Lib.hid (KV.out.below hbel2.out)
        have QX := Lib.hid (QV.out.below hbel2.out)
        have LX := Lib.hid (LV.out.below hbel2.out)
        have PX := Lib.hid (PV.out.below hbel2.out)
        have zx := hbel2.out.size
        by_cases hjk : j < k
        · obtain ⟨_, _, heq, _, hp0, hp1⟩ := at_box PX.out (show j < PP.length by omega)
          injection heq with heq
          injection heq with he1 he2
          subst he1 he2
          obtain ⟨_, _, heq, _, hl0, hl1⟩ := at_box LX.out (show j < L'.length by have := HNL.out; omega)
          injection heq with heq
          injection heq with he1 he2
          subst he1 he2
          obtain ⟨_, _, heq, _, hk0, hk1⟩ := at_box LX.out hkL
          injection heq with heq
          injection heq with he1 he2
          subst he1 he2
          rw [HPT.out j (by omega)] at hp0 hp1
          obtain ⟨r1, r2, r3, r4⟩ := HPA.out j (by omega)
          obtain ⟨v1, v2, v3, v4⟩ := HF.out j
          have hap := HAK.out j hjk
          have HK' := HBK.out
          rw [HK'] at hk0 hk1
          simp only at hk0 hk1
          clear HK'
          generalize ptf j = pj at *
          generalize L'.getD j (0, 0) = bj at *
          obtain ⟨qx, qy⟩ := pj
          obtain ⟨sw, sh⟩ := bj
          simp only at hp0 hp1 hl0 hl1 r1 r2 r3 r4 v1 v2 v3 v4 hap
          have HJ := Lib.hid hj
          go_wp2_with fail
          obtain ⟨V, hV⟩ : ∃ V, V = wr.alloc (.cells #[.int .i64 qx, .int .i64 qy] 73) := ⟨_, rfl⟩
          rw [← hV]
          have KU := Lib.hid (show Blk V g _ _ by rw [hV]; exact KX.out.alloc _)
          have SU := Lib.hid (show Blk V gp _ _ by rw [hV]; exact QX.out.alloc _)
          have QU := Lib.hid (show Blk V wr.heap.size _ _ by rw [hV]; exact Blk.new wr 73 #[.int .i64 qx, .int .i64 qy])
          have BU : Hid (Below U2.heap.size U2 V) := by show Below _ _ _; rw [hV]; exact hbel2.out.alloc zx _
          have el0 : V.cell? ⟨b2, o2 + j * 2, none⟩ = some (.int .i64 sw) := by rw [hV]; exact Lib.cell?_alloc_some _ hl0
          have el1 : V.cell? ⟨b2, o2 + j * 2 + 1, none⟩ = some (.int .i64 sh) := by rw [hV]; exact Lib.cell?_alloc_some _ hl1
          have ek0 : V.cell? ⟨b2, o2 + k * 2, none⟩ = some (.int .i64 bw) := by rw [hV]; exact Lib.cell?_alloc_some _ hk0
          have ek1 : V.cell? ⟨b2, o2 + k * 2 + 1, none⟩ = some (.int .i64 bh) := by rw [hV]; exact Lib.cell?_alloc_some _ hk1
          obtain ⟨⟨d0, d1, d2, d3, d4⟩, _⟩ := KU.out.five
          obtain ⟨⟨e0, e1⟩, _⟩ := SU.out.two
          obtain ⟨⟨g0, g1⟩, _⟩ := QU.out.two
          clear hp0 hp1 hl0 hl1 hk0 hk1 hV
          have c1 : IntKind.i64.wrap (qx + sw) = qx + sw := by rw [IntKind.wrap_i64]; omega
          have c2' : IntKind.i64.wrap (px + bw) = px + bw := by rw [IntKind.wrap_i64]; omega
          have c3' : IntKind.i64.wrap (qy + sh) = qy + sh := by rw [IntKind.wrap_i64]; omega
          have c4 : IntKind.i64.wrap (py + bh) = py + bh := by rw [IntKind.wrap_i64]; omega
          generalize wr.heap.size = gq at *
          by_cases hc0 : px < qx + sw
          rotate_left
          · have hb0 : decide (px < qx + sw) = false := decide_eq_false hc0
            go_big_quiet (fail)
            go_wp2_with fail
            go_roundw
            case rel => exact ⟨j + 1, by omega, by go_num, drewN_below' BU.out _⟩
            case measure => simp [intOf]; omega
          have hb0 : decide (px < qx + sw) = true := decide_eq_true hc0
          by_cases hc1 : qx < px + bw
          rotate_left
          · have hb1 : decide (qx < px + bw) = false := decide_eq_false hc1
            go_big_quiet (fail)
            go_wp2_with fail
            go_roundw
            case rel => exact ⟨j + 1, by omega, by go_num, drewN_below' BU.out _⟩
            case measure => simp [intOf]; omega
          have hb1 : decide (qx < px + bw) = true := decide_eq_true hc1
          by_cases hc2 : py < qy + sh
          rotate_left
          · have hb2 : decide (py < qy + sh) = false := decide_eq_false hc2
            go_big_quiet (fail)
            go_wp2_with fail
            go_roundw
            case rel => exact ⟨j + 1, by omega, by go_num, drewN_below' BU.out _⟩
            case measure => simp [intOf]; omega
          have hb2 : decide (py < qy + sh) = true := decide_eq_true hc2
          by_cases hc3 : qy < py + bh
          · exact absurd ⟨hc0, hc1, hc2, hc3⟩ hap
          · have hb3 : decide (qy < py + bh) = false := decide_eq_false hc3
            go_big_quiet (fail)
            go_wp2_with fail
            go_roundw
            case rel => exact ⟨j + 1, by omega, by go_num, drewN_below' BU.out _⟩
            case measure => simp [intOf]; omega
        · obtain rfl : j = k := by omega
          go_wp2_with fail
          go_roundw
          case rel => exact ⟨j + 1, by omega, by go_num, BV.out.trans (hbel2.out.mono BV.out.size)⟩
          case measure => simp [intOf]; omega
    · obtain rfl : k = N := by omega
      go_wp2_with fail
      go_ret
      exact ⟨rfl, by rw [HG.out]; exact B5.out.trans (hbel.out.mono z5)⟩
end Go.Proofs.Ytjpdnnjijcmioaa
