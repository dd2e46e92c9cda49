/- Contract of flip.Apply. -/
import Derived.Test.YtdaohjimfgdmbaaFpB1
namespace Go.Proofs.Ytdaohjimfgdmbaa
open Go.RowKit Go.Maps Sn M
theorem below_of_drewS {w w' : World} (h : Below w.drew.heap.size w.drew w') : Below w.heap.size w w' := ⟨h.os, h.tape, h.output, h.size, h.block⟩
theorem take_nextS (S : List Sh) (k : Nat) (h : k < S.length) : S.take (k + 1) = S.take k ++ [S[k]] := List.take_succ_eq_append_getElem h
set_option maxHeartbeats 8000000 in
set_option maxRecDepth 100000 in
theorem apply_any (A B : Option Addr) (n c m d : Nat) (L R : List En) (S : List Sh) (w : World) (hn : n = L.length) (hb : n ≤ 100000) (hA0 : A = none → n = 0 ∧ c = 0) (ha : At w A (ecs L)) (hm : m = S.length) (hm2 : m ≤ 100000) (hb' : At w B (shcs S)) (hr : Is En.id L R) :
    Calls Try.prog 26 #[.slice A n c, .slice B m d] w fun e w' => ∃ (A1 : Option Addr) (c1 : Nat), e = .returned (.slice A1 R.length c1) ∧ At w' A1 (ecs (appS R S)) ∧ (A1 = none → R.length = 0 ∧ c1 = 0) ∧ Below w.heap.size w w' := by
  have C1 := Lib.hid (snapOf_isW A n c L R w hn (by omega) hA0 ha hr)
  have HRL : Hid (R.length ≤ 100000) := Nat.le_trans (is_len hr) (by omega)
  have HUP := Lib.hid hr.up
  have HB := Lib.hid hb'
  have HM := Lib.hid hm
  clear hn hA0 ha hm hb' hr
  obtain ⟨q, hq⟩ : ∃ q, q = R.length := ⟨_, rfl⟩
  have HQ := Lib.hid hq
  rw [← hq] at C1 HRL ⊢
  clear hq
  go_enter Try.func26, Try.ntmps26
  go_wp2_with fail
  refine C1.out.mono ?_
  rintro e w1 ⟨A1, c1, rfl, hat1, hfr1, hA1, hb1⟩
  have HAT := Lib.hid hat1
  have HFR := Lib.hid hfr1
  have HA1 := Lib.hid hA1
  have HB1 := Lib.hid hb1
  clear hat1 hfr1 hA1 hb1 C1
  go_wp2_with fail
  go_loopw [14] (fun i wr => ∃ k : Nat, k ≤ m ∧ i = .int .i64 k ∧ Hid (AtW wr A1 (ecs (appS R (S.take k)))) ∧ Hid (Below w.heap.size w wr)) (fun i _ => m - (intOf i).toNat)
  case atStart => exact ⟨0, Nat.zero_le _, rfl, by rw [List.take_zero]; exact HAT, HB1⟩
  case round =>
    obtain ⟨k, hk, rfl, hat, hbel⟩ := hrel
    by_cases hlt : k < m
    · have hkS : k < S.length := by have := HM.out; omega
      obtain ⟨b1, o1, hB, hlb, hc0, hc1, hc2⟩ := at_sh HB.out hkS
      subst hB
      have hd0 := (hbel.out.cell (p := ⟨b1, o1 + k * 3, none⟩) hlb).trans hc0
      have hd1 := (hbel.out.cell (p := ⟨b1, o1 + k * 3 + 1, none⟩) hlb).trans hc1
      have hd2 := (hbel.out.cell (p := ⟨b1, o1 + k * 3 + 2, none⟩) hlb).trans hc2
      have hnx : appS R (S.take (k + 1)) = (appS R (S.take k)).map (mv S[k]) := by rw [take_nextS S k hkS, appS_snoc]
      have hup := appS_up (S.take k) HUP.out
      have hlen := appS_len (S.take k) R
      generalize S[k] = s at *
      obtain ⟨T, hT⟩ : ∃ T, T = appS R (S.take k) := ⟨_, rfl⟩
      rw [← hT] at hat hnx hup hlen
      have HNX := Lib.hid hnx
      have HU := Lib.hid hup
      have HL : Hid (q = T.length) := by show q = T.length; rw [hlen]; exact HQ.out
      clear hT hnx hup hlen hc0 hc1 hc2 hkS
      obtain ⟨sid, dx, dy⟩ := s
      dsimp only at hd0 hd1 hd2
      obtain ⟨W1, hW1⟩ : ∃ W, W = wr.alloc (.cells #[.int .i64 sid, .int .i64 dx, .int .i64 dy] 59) := ⟨_, rfl⟩
      have hbw : Below wr.heap.size wr W1 := by rw [hW1]; exact below_alloc wr _
      have K1 := Lib.hid (show Blk W1 wr.heap.size 59 #[.int .i64 sid, .int .i64 dx, .int .i64 dy] by rw [hW1]; exact Blk.new wr _ _)
      have HAT1 := Lib.hid (hat.out.below hbw)
      have HBW := Lib.hid (hbel.out.trans (hbw.mono hbel.out.size))
      have s0 := K1.out.cell 0 (v := .int .i64 sid) rfl
      obtain ⟨g, hg⟩ : ∃ g, g = wr.heap.size := ⟨_, rfl⟩
      have HGW := Lib.hid (show w.heap.size ≤ g by rw [hg]; exact hbel.out.size)
      rw [← hg] at s0 K1
      have HW1 := Lib.hid hW1
      have HG := Lib.hid hg
      clear hW1 hbw hg hat hbel
      go_upto_region 5 with fail
      rw [← HW1.out, ← HG.out]
      clear hd0 hd1 hd2
      by_cases hex : ∃ j, j < T.length ∧ (el T j).id = sid
      · obtain ⟨j, hj, hji⟩ := hex
        have CF := Lib.hid (find_yes A1 q c1 T sid W1 HL.out (by have := HRL.out; omega) HAT1.out.1 HU.out j (by have := HL.out; omega) hji)
        have HMV := Lib.hid (mv_some (s := ⟨sid, dx, dy⟩) HU.out hj hji)
        have hjq : j < q := by have := HL.out; omega
        have HJ := Lib.hid hj
        clear hj hji
        go_wp2_with fail
        refine CF.out.mono ?_
        rintro e w3 ⟨rfl, hb3⟩
        have HAT3 := Lib.hid (HAT1.out.below hb3)
        have K3 := Lib.hid (K1.out.below hb3)
        have HB3 := Lib.hid (HBW.out.trans (hb3.mono HBW.out.size))
        obtain ⟨b2, o2, hA2, hlb2, e0, e1, e2, e3, e4⟩ := at_en HAT3.out.1 HJ.out
        subst hA2
        have hb2w : w.heap.size ≤ b2 := HFR.out b2 o2 none rfl
        have z0 := HAT3.out.2 b2 o2 none (j * 5 + 1) (.int .i64 (el T j).x) rfl (ecs_at T j HJ.out 1 (by omega))
        have z1 := HAT3.out.2 b2 o2 none (j * 5 + 2) (.int .i64 (el T j).y) rfl (ecs_at T j HJ.out 2 (by omega))
        have z2 := HAT3.out.2 b2 o2 none (j * 5 + 3) (.int .i64 (el T j).w) rfl (ecs_at T j HJ.out 3 (by omega))
        have z3 := HAT3.out.2 b2 o2 none (j * 5 + 4) (.int .i64 (el T j).h) rfl (ecs_at T j HJ.out 4 (by omega))
        have s1 := K3.out.cell 1 (v := .int .i64 dx) rfl
        have s2 := K3.out.cell 2 (v := .int .i64 dy) rfl
        have hlg := K3.out.lt
        clear hb3 s0 e0 K1 HAT1 HBW CF
        have HSR := Lib.hid (fun (W : World) (h : AtW W (some ⟨b2, o2, none⟩) (ecs T)) => h.setR HJ.out (ad (el T j).x dx) (ad (el T j).y dy))
        generalize (el T j).x = x0 at *
        generalize (el T j).y = y0 at *
        generalize (el T j).w = v0 at *
        generalize (el T j).h = h0 at *
        have CA := Lib.hid (fun W => at_any x0 y0 v0 h0 dx dy W)
        go_upto_region 7 with fail
        go_region_with (first | (go_at_call 50; (with_reducible refine (CA.out _).mono ?_); rintro e9 w5 ⟨rfl, hb9⟩; have q1 : w5.cell? ⟨b2, o2 + j * 5 + 1, none⟩ = some (.int .i64 x0) := (hb9.cell (p := ⟨b2, o2 + j * 5 + 1, none⟩) hlb2).trans e1; have q2 : w5.cell? ⟨b2, o2 + j * 5 + 2, none⟩ = some (.int .i64 y0) := (hb9.cell (p := ⟨b2, o2 + j * 5 + 2, none⟩) hlb2).trans e2; have q3 : w5.cell? ⟨b2, o2 + j * 5 + 3, none⟩ = some (.int .i64 v0) := (hb9.cell (p := ⟨b2, o2 + j * 5 + 3, none⟩) hlb2).trans e3; have q4 : w5.cell? ⟨b2, o2 + j * 5 + 4, none⟩ = some (.int .i64 h0) := (hb9.cell (p := ⟨b2, o2 + j * 5 + 4, none⟩) hlb2).trans e4; have t1 : w5.frozen? ⟨b2, o2 + j * 5 + 1, none⟩ = false := (hb9.frozen (p := ⟨b2, o2 + j * 5 + 1, none⟩) hlb2).trans z0; have t2 : w5.frozen? ⟨b2, o2 + j * 5 + 2, none⟩ = false := (hb9.frozen (p := ⟨b2, o2 + j * 5 + 2, none⟩) hlb2).trans z1; have t3 : w5.frozen? ⟨b2, o2 + j * 5 + 3, none⟩ = false := (hb9.frozen (p := ⟨b2, o2 + j * 5 + 3, none⟩) hlb2).trans z2; have t4 : w5.frozen? ⟨b2, o2 + j * 5 + 4, none⟩ = false := (hb9.frozen (p := ⟨b2, o2 + j * 5 + 4, none⟩) hlb2).trans z3; have HB9 := Lib.hid (below_of_drewS hb9)))
        all_goals
          have HAT5 := Lib.hid (HSR.out _ (HAT3.out.below (show Below w3.heap.size w3 w5 from HB9.out)))
          have HB5 := Lib.hid (((((HB3.out.trans (HB9.out.mono HB3.out.size)).setCell (p := ⟨b2, o2 + j * 5 + 1, none⟩) hb2w (.int .i64 (ad x0 dx))).setCell (p := ⟨b2, o2 + j * 5 + 1 + 1, none⟩) hb2w (.int .i64 (ad y0 dy))).setCell (p := ⟨b2, o2 + j * 5 + 1 + 2, none⟩) hb2w (.int .i64 v0)).setCell (p := ⟨b2, o2 + j * 5 + 1 + 3, none⟩) hb2w (.int .i64 h0))
          clear q1 q2 q3 q4 t1 t2 t3 t4 HB9
          go_wp2
          go_roundw
          case rel => exact ⟨k + 1, by omega, by go_num, Lib.hid (by rw [HNX.out, HMV.out]; exact HAT5.out), HB5⟩
          case measure => simp [intOf]; omega
      · have CF := Lib.hid (find_no A1 q c1 T sid W1 HL.out (by have := HRL.out; omega) HAT1.out.1 HU.out (fun j hj e => hex ⟨j, hj, e⟩))
        have HMV := Lib.hid (mv_none (R := T) (s := ⟨sid, dx, dy⟩) (fun j hj e => hex ⟨j, hj, e⟩))
        clear hex
        go_wp2_with fail
        refine CF.out.mono ?_
        rintro e w3 ⟨j, rfl, hb3⟩
        have HAT3 := Lib.hid (HAT1.out.below hb3)
        have HB3 := Lib.hid (HBW.out.trans (hb3.mono HBW.out.size))
        clear hb3 s0 CF
        go_wp2
        go_roundw
        case rel => exact ⟨k + 1, by omega, by go_num, Lib.hid (by rw [HNX.out, HMV.out]; exact HAT3.out), HB3⟩
        case measure => simp [intOf]; omega
    · obtain rfl : k = m := by omega
      have HS : Hid (S.take k = S) := List.take_of_length_le (by have := HM.out; omega)
      go_wp2
      go_ret
      exact ⟨A1, c1, rfl, by have := hat.out.1; rw [HS.out] at this; exact this, HA1.out, hbel.out⟩
end Go.Proofs.Ytdaohjimfgdmbaa
