/- PhaseWords: whatever calls come, what is told is a way of the automaton, and fits how the kid looks. -/
import Derived.Test.YtenolokklkklbaaPhK
import Derived.Test.YtenolokklkklbaaPhLaws
import Derived.Test.YtenolokklkklbaaPhLawW
import Derived.Test.YtenolokklkklbaaPhN3
import Derived.Deep.RegionHeld3
namespace Go.Proofs.Ytenolokklkklbaa
open Go.RowKit Ph
set_option linter.unusedVariables false
set_option linter.unusedSimpArgs false
set_option linter.unnecessarySimpa false
namespace Ph
theorem pre_neg (st : Int) (h : List Int) (q : Nat) (hneg : Hk.run st (h.take q) < 0) : Hk.run st h < 0 := by
  have h1 := Hk.run_neg (Hk.run st (h.take q)) (h.drop q) hneg
  have e : Hk.run (Hk.run st (h.take q)) (h.drop q) = Hk.run st h := by
    show List.foldl Hk.nx (List.foldl Hk.nx st (h.take q)) (h.drop q) = List.foldl Hk.nx st h
    rw [← List.foldl_append, List.take_append_drop]
  rwa [e] at h1
theorem kid_beside {w wr wx : World} {z ag : Nat} {s : St} (h : Kid w wr z s) (hb : Beside (fun x => x = ag) wr wx) (_ : True = True) (hz : z ≠ ag) (hw : w.heap.size ≤ ag) : Kid w wx z s :=
  ⟨hb.below h.bel h.bel.size (fun g hg => by omega), h.base, (hb.block z h.blk.lt hz).trans h.blk⟩
def t2I (k t : Int) : Prop := (k = 2 ∨ k = 3) ∧ t = 2 ∨ (k = 5 ∨ k = 6) ∧ t = 5 ∨ (k = 1) ∧ t = 0 ∨ (k = 1) ∧ t = 6 ∨ (k = 0) ∧ t = 0 ∨ (k = 0) ∧ t = 3 ∨ (k = 4) ∧ t = 0 ∨ (k = 4) ∧ t = 3
theorem t2_of {s : St} {t : Int} (h : WInv s t) : t2I s.k t := by
  have h1 := h.good.fine.k0
  have h2 := h.good.fine.k6
  have h3 := h.en
  have h4 := h.le
  have h5 := h.wa
  have h6 := h.st
  unfold t2I
  have hk : s.k = 0 ∨ s.k = 1 ∨ (s.k = 2 ∨ s.k = 3) ∨ s.k = 4 ∨ (s.k = 5 ∨ s.k = 6) := by omega
  rcases hk with e | e | e | e | e
  · rcases h6 (.inl e) with q | q
    · exact .inr (.inr (.inr (.inr (.inl ⟨e, q⟩))))
    · exact .inr (.inr (.inr (.inr (.inr (.inl ⟨e, q⟩)))))
  · rcases h5 e with q | q
    · exact .inr (.inr (.inl ⟨e, q⟩))
    · exact .inr (.inr (.inr (.inl ⟨e, q⟩)))
  · exact .inl ⟨e, h3 e⟩
  · rcases h6 (.inr e) with q | q
    · exact .inr (.inr (.inr (.inr (.inr (.inr (.inl ⟨e, q⟩))))))
    · exact .inr (.inr (.inr (.inr (.inr (.inr (.inr ⟨e, q⟩))))))
  · exact .inr (.inl ⟨e, h4 e⟩)
set_option maxHeartbeats 40000000 in
set_option maxRecDepth 100000 in
theorem phaseWords_any (b : Bool) (A : Option Addr) (n c : Nat) (L : List Ac) (w : World) (h : ActsIn w A n c L) :
    Calls Try.prog 3 #[.bool b, .slice A n c] w fun e w' => e = .returned (.bool true) ∧ Below w.heap.size w w' := by
  obtain ⟨hn, hc, hm, hat, _, hA⟩ := h
  unfold maxLen at hm
  have HN := Lib.hid hn
  have HAT : Hid (At w A (als L)) := hat
  clear hn hat hA
  go_enter Try.func3, Try.ntmps3
  go_wp2_with fail
  (with_reducible refine (awake_any _).mono ?_)
  rintro e w1 ⟨rfl, hb1⟩
  have HB1 := Lib.hid hb1
  clear hb1
  go_wp2_with fail
  (with_reducible refine (new_any b _).mono ?_)
  rintro e w2 ⟨rfl, hb2⟩
  have HB2 := Lib.hid (HB1.out.trans (hb2.mono HB1.out.size))
  clear hb2
  unfold stc
  obtain ⟨z, hz⟩ : ∃ z, z = w2.heap.size := ⟨_, rfl⟩
  have HK : Hid (Kid w (w2.alloc (.cells (stc (fresh b)) 27)) z (fresh b)) := ⟨HB2.out.alloc HB2.out.size _, by rw [hz]; exact HB2.out.size, hz ▸ Blk.new w2 _ _⟩
  have HF := Lib.hid (winv_fresh b)
  have HZ := Lib.hid hz
  unfold stc at HK
  go_wp2
  rw [← HZ.out]
  clear hz
  go_loopw [6, 7] (fun j i wr => ∃ (kk : Nat) (s : St) (st : Int), kk ≤ n ∧ j = .int .i64 st ∧ i = .int .i64 kk ∧ Hid (WInv s st) ∧ Hid (Kid w wr z s)) (fun _ i _ => n - (intOf i).toNat)
  case atStart => exact ⟨0, fresh b, 0, Nat.zero_le _, rfl, rfl, HF.out, HK.out⟩
  case round =>
    obtain ⟨kk, s, st, hk, rfl, rfl, hf, hkd⟩ := hrel
    by_cases hrun : kk < n ∧ kk < 60
    · obtain ⟨hlt, h60⟩ := hrun
      have hkL : kk < L.length := by have := HN.out; omega
      obtain ⟨ab, ao, rfl, hab, ha0⟩ := at_ac HAT.out hkL
      generalize L[kk] = a at ha0
      have hbl := hkd.out.bel
      obtain ⟨g6, g7, g8, g9, g10⟩ := ha0
      have g6 := (hbl.cell (p := ⟨ab, ao + kk * 5, none⟩) hab).trans g6
      have g7 := (hbl.cell (p := ⟨ab, ao + kk * 5 + 1, none⟩) hab).trans g7
      have g8 := (hbl.cell (p := ⟨ab, ao + kk * 5 + 2, none⟩) hab).trans g8
      have g9 := (hbl.cell (p := ⟨ab, ao + kk * 5 + 3, none⟩) hab).trans g9
      have g10 := (hbl.cell (p := ⟨ab, ao + kk * 5 + 4, none⟩) hab).trans g10
      have HAB0 : Hid (w.heap.size ≤ wr.heap.size ∧ z < wr.heap.size) := ⟨hbl.size, hkd.out.blk.lt⟩
      clear hbl hab
      obtain ⟨W8, hW8⟩ : ∃ W, W = wr.alloc (.cells #[.int .i64 a.c, .int .i64 a.d, .int .i64 a.x, .int .i64 a.y, .bool a.o] 30) := ⟨_, rfl⟩
      have hk8 := hkd.out.below (below_alloc wr (.cells #[.int .i64 a.c, .int .i64 a.d, .int .i64 a.x, .int .i64 a.y, .bool a.o] 30))
      have ha8 := Blk.new wr 30 #[.int .i64 a.c, .int .i64 a.d, .int .i64 a.x, .int .i64 a.y, .bool a.o]
      rw [← hW8] at hk8 ha8
      obtain ⟨ag, hag⟩ : ∃ g, g = wr.heap.size := ⟨_, rfl⟩
      rw [← hag] at ha8
      have HAG := Lib.hid hag
      have HW8 := Lib.hid hW8
      have HK8 := Lib.hid hk8
      have HA8 := Lib.hid ha8
      obtain ⟨f0, f1, f2, f3, f4, f5⟩ := six_cells hk8.blk
      have a0 : W8.cell? ⟨ag, 0, none⟩ = some (.int .i64 a.c) := ha8.cell 0 rfl
      have a1 : W8.cell? ⟨ag, 1, none⟩ = some (.int .i64 a.d) := ha8.cell 1 rfl
      have a2 : W8.cell? ⟨ag, 2, none⟩ = some (.int .i64 a.x) := ha8.cell 2 rfl
      have a3 : W8.cell? ⟨ag, 3, none⟩ = some (.int .i64 a.y) := ha8.cell 3 rfl
      have a4 : W8.cell? ⟨ag, 4, none⟩ = some (.bool a.o) := ha8.cell 4 rfl
      clear hW8 hk8 ha8 hag
      go_upto_region 9 with fail
      rw [← HW8.out, ← HAG.out]
      clear g6 g7 g8 g9 g10
      have HAZ : Hid (z ≠ ag) := by have := HAB0.out.2; have := HAG.out; show _ ≠ _; omega
      have HAB : Hid (w.heap.size ≤ ag) := by have := HAB0.out.1; have := HAG.out; show _ ≤ _; omega
      go_cut [8] (fun p wx => p = .pointer (some ⟨ag, 0, none⟩) ∧ Hid (Blk wx ag 30 #[.int .i64 a.c, .int .i64 a.d, .int .i64 (sx a.x), .int .i64 (sx a.y), .bool a.o]) ∧ Hid (Kid w wx z s))
      case first =>
        have CS := Lib.hid (fun x W => rsat_any x W)
        have q0 := HA8.out.frozen 2
        have q1 := HA8.out.frozen 3
        first | go_region_with (first | (go_at_call 8; (with_reducible refine (CS.out _ _).mono ?_); rintro e9 w9 ⟨rfl, rfl⟩)) | fail
        all_goals (go_wp2_with fail; go_meet; exact ⟨rfl, (HA8.out.set 2 (.int .i64 (sx a.x))).set 3 (.int .i64 (sx a.y)), kid_beside HK8.out (((Beside.refl (fun x => x = ag) W8).set (.inl rfl) 2 (.int .i64 (sx a.x))).set (.inl rfl) 3 (.int .i64 (sx a.y)) |>.drewN 1) rfl HAZ.out HAB.out⟩)
      case' rest =>
        obtain ⟨rfl, HA9, HK9a⟩ := hcut
      clear f0 f1 f2 f3 f4 f5 a0 a1 a2 a3 a4
      obtain ⟨f0, f1, f2, f3, f4, f5⟩ := six_cells HK9a.out.blk
      have a0 : wc.cell? ⟨ag, 0, none⟩ = some (.int .i64 a.c) := HA9.out.cell 0 rfl
      have a1 : wc.cell? ⟨ag, 1, none⟩ = some (.int .i64 a.d) := HA9.out.cell 1 rfl
      have a2 : wc.cell? ⟨ag, 2, none⟩ = some (.int .i64 (sx a.x)) := HA9.out.cell 2 rfl
      have a3 : wc.cell? ⟨ag, 3, none⟩ = some (.int .i64 (sx a.y)) := HA9.out.cell 3 rfl
      have a4 : wc.cell? ⟨ag, 4, none⟩ = some (.bool a.o) := HA9.out.cell 4 rfl
      have CF := Lib.hid (fun W => do_any s ⟨a.c, a.d, sx a.x, sx a.y, a.o⟩ W)
      have HST0 := Lib.hid (words_step s ⟨a.c, a.d, sx a.x, sx a.y, a.o⟩ st hf.out (sx_in _) (sx_in _))
      unfold stc acc at CF
      generalize pdo s ⟨a.c, a.d, sx a.x, sx a.y, a.o⟩ = o at *
      go_wp2_with fail
      (with_reducible refine (CF.out _).mono ?_)
      rintro e v10 ⟨hv, rfl, ho, hb⟩
      obtain ⟨A5, c5, rfl, hc5, hm5, hat5⟩ := at_of_own' ho
      obtain ⟨⟨k', m', x', y', d', e'⟩, h', j, mj, en, me, go⟩ := o
      unfold ouc
      simp only at *
      obtain ⟨W10, hW10⟩ : ∃ W, W = v10.alloc (.cells #[.int .i64 k', .int .i64 m', .int .i64 x', .int .i64 y', .int .i64 d', .int .i64 e', .slice A5 h'.length c5, .int .i64 j, .int .i64 mj, .bool en, .bool me, .bool go] 34) := ⟨_, rfl⟩
      have hq3 := Blk.new v10 34 #[.int .i64 k', .int .i64 m', .int .i64 x', .int .i64 y', .int .i64 d', .int .i64 e', .slice A5 h'.length c5, .int .i64 j, .int .i64 mj, .bool en, .bool me, .bool go]
      have hk10 := (HK9a.out.below hb).below (below_alloc v10 (.cells #[.int .i64 k', .int .i64 m', .int .i64 x', .int .i64 y', .int .i64 d', .int .i64 e', .slice A5 h'.length c5, .int .i64 j, .int .i64 mj, .bool en, .bool me, .bool go] 34))
      have hat10 := hat5.alloc (.cells #[.int .i64 k', .int .i64 m', .int .i64 x', .int .i64 y', .int .i64 d', .int .i64 e', .slice A5 h'.length c5, .int .i64 j, .int .i64 mj, .bool en, .bool me, .bool go] 34)
      rw [← hW10] at hq3 hk10 hat10
      have HW10 := Lib.hid hW10
      obtain ⟨g, hg⟩ : ∃ g, g = v10.heap.size := ⟨_, rfl⟩
      rw [← hg] at hq3
      have HG := Lib.hid hg
      have HK10 := Lib.hid hk10
      have HAT10 := Lib.hid hat10
      have HQ10 := Lib.hid hq3
      have HSTEP : Hid (WStep st ⟨⟨k', m', x', y', d', e'⟩, h', j, mj, en, me, go⟩) := HST0.out
      have hzv : z < v10.heap.size := (HK9a.out.below hb).blk.lt
      have gne : z ≠ g := by omega
      have gne' : g ≠ z := by omega
      obtain ⟨gc0, gc1, gc2, gc3, gc4, gc5, gc6, gc7, gc8, gc9, gc10, gc11⟩ := blk12 hq3
      have hlm : h'.length ≤ c5 ∧ c5 ≤ maxLen := ⟨hc5, hm5⟩
      unfold maxLen at hlm
      have HLM := Lib.hid hlm
      clear hW10 hq3 hk10 hat10 hat5 hb ho CF HST0 hg hzv f0 f1 f2 f3 f4 f5 a0 a1 a2 a3 a4 hc5 hm5
      go_upto_region 11 with fail
      rw [← HW10.out, ← HG.out]
      obtain ⟨N5, hN5⟩ : ∃ N5, N5 = h'.length := ⟨_, rfl⟩
      rw [← hN5] at gc6 hlm
      have HN5 := Lib.hid hN5
      clear hN5
      go_wp2
      go_loopw [44, 6] (fun q t wx => ∃ (p : Nat), p ≤ N5 ∧ q = .int .i64 p ∧ (∃ tt, t = .int .i64 tt ∧ Hid (tt = Hk.run st (h'.take p))) ∧ Hid (Below W10.heap.size W10 wx)) (fun q _ _ => N5 - (intOf q).toNat)
      case atStart => exact ⟨0, Nat.zero_le _, rfl, ⟨st, rfl, by show _ = _; rw [List.take_zero]; rfl⟩, Below.refl _ _⟩
      case round =>
        rename World => wx
        obtain ⟨p, hp, rfl, ⟨tt, rfl, htt⟩, hbx⟩ := hrel
        by_cases hpl : p < N5
        · have hph : p < h'.length := by have := HN5.out; omega
          obtain ⟨b1, o1, rfl, hb1, hc1⟩ := HAT10.out.one (iv_at h' p hph)
          have hc2 := (below_cells hbx.out).1 b1 (o1 + p) hb1
          rw [hc1] at hc2
          have HNX : Hid (0 ≤ Hk.nx tt (ats h' p) ∧ Hk.nx tt (ats h' p) = Hk.run st (h'.take (p + 1))) := by
            have e1 : h'.take (p + 1) = h'.take p ++ [ats h' p] := by
              rw [List.take_succ_eq_append_getElem hph]
              simp [ats, hph]
            have e2 : Hk.nx tt (ats h' p) = Hk.run st (h'.take (p + 1)) := by rw [e1, Hk.run_snoc, htt.out]
            refine ⟨?_, e2⟩
            rcases Int.lt_or_le (Hk.nx tt (ats h' p)) 0 with h9 | h9
            · exfalso
              have h8 := HSTEP.out.ok
              simp only at h8
              have h7 := pre_neg st h' (p + 1) (by rw [← e2]; exact h9)
              omega
            · exact h9
          clear hc1
          generalize ats h' p = hx at *
          have CN := Lib.hid (fun W => rnext_any tt hx W)
          obtain ⟨nn, hnn⟩ : ∃ nn, nn = Hk.nx tt hx := ⟨_, rfl⟩
          rw [← hnn] at CN HNX
          have HNN0 : decide (nn < 0) = false := by have := HNX.out.1; simpa using this
          clear hnn
          go_wp2_with fail
          (with_reducible refine (CN.out _).mono ?_)
          rintro e w6 ⟨rfl, hb6⟩
          have HB6 := Lib.hid (hbx.out.trans (hb6.mono hbx.out.size))
          clear hb6
          go_wp2
          go_roundw
          case rel => exact ⟨p + 1, by omega, by go_num, ⟨nn, rfl, HNX.out.2⟩, HB6.out⟩
          case measure => simp [intOf]; omega
        · obtain rfl : p = N5 := by omega
          have HTT : Hid (tt = Hk.run st h') := by
            show _ = _
            rw [htt.out, List.take_of_length_le (by rw [HN5.out]; exact Nat.le_refl _)]
          clear htt hpl hp
          have HKx := Lib.hid (HK10.out.below hbx.out)
          obtain ⟨gc0, gc1, gc2, gc3, gc4, gc5, gc6, gc7, gc8, gc9, gc10, gc11⟩ := blk12 (HQ10.out.below hbx.out)
          obtain ⟨zc0, zc1, zc2, zc3, zc4, zc5⟩ := six_cells HKx.out.blk
          have zz := HKx.out.blk.frozen
          have zz0 := zz 0; have zz1 := zz 1; have zz2 := zz 2; have zz3 := zz 3; have zz4 := zz 4; have zz5 := zz 5
          clear zz
          have hk9 := HKx.out.put ⟨k', m', x', y', d', e'⟩
          have gd := far6 (z := z) (x0 := .int .i64 k') (x1 := .int .i64 m') (x2 := .int .i64 x') (x3 := .int .i64 y') (x4 := .int .i64 d') (x5 := .int .i64 e') gc11 gne'
          obtain ⟨w9, hw9⟩ : ∃ W, W = ((((((wx.setCell ⟨z, 0, none⟩ (.int .i64 k')).setCell ⟨z, 1, none⟩ (.int .i64 m')).setCell ⟨z, 2, none⟩ (.int .i64 x')).setCell ⟨z, 3, none⟩ (.int .i64 y')).setCell ⟨z, 4, none⟩ (.int .i64 d')).setCell ⟨z, 5, none⟩ (.int .i64 e')) := ⟨_, rfl⟩
          rw [← hw9] at hk9 gd
          have HW9 := Lib.hid hw9
          have HK9 := Lib.hid hk9
          clear hk9 hw9
          go_upto_region 19 with fail
          rw [← HW9.out]
          clear zc0 zc1 zc2 zc3 zc4 zc5 zz0 zz1 zz2 zz3 zz4 zz5 gc0 gc1 gc2 gc3 gc4 gc5 gc6 gc7 gc8 gc9 gc10 gc11
          obtain ⟨zc0, zc1, zc2, zc3, zc4, zc5⟩ := six_cells HK9.out.blk
          have HGD := Lib.hid HSTEP.out.good
          have CM := Lib.hid (fun W => may_any k' m' x' y' ⟨HGD.out.fine.k0, HGD.out.fine.k6, HGD.out.fine.m0, HGD.out.fine.m2, HGD.out.fine.still, HGD.out.off, HGD.out.inx, HGD.out.iny⟩ W)
          go_wp2_with fail
          (with_reducible refine (CM.out _).mono ?_)
          rintro e w11 ⟨rfl, hb11⟩
          have HK11 := Lib.hid (HK9.out.below hb11)
          have gd11 := (hb11.cell (p := ⟨g, 11, none⟩) (World.block_lt_of_cell? w9 _ gd)).trans gd
          clear zc0 zc1 zc2 zc3 zc4 zc5 hb11 gd CM
          cases go
          · have HWI : Hid (WInv ⟨k', m', x', y', d', e'⟩ tt) := by rw [HTT.out]; exact HSTEP.out.stays rfl
            have HEND : ∃ (q : St) (t9 : Int), Hid (q = ⟨k', m', x', y', d', e'⟩) ∧ Hid (Value.int .i64 tt = .int .i64 t9) ∧ Hid (WInv q t9) := ⟨_, tt, rfl, rfl, HWI.out⟩
            have HTI : Hid (t2I k' tt) := t2_of HWI.out
            obtain ⟨zc0, zc1, zc2, zc3, zc4, zc5⟩ := six_cells HK11.out.blk
            have CE := Lib.hid (fun W => entering_any k' m' x' y' W)
            have CL := Lib.hid (fun W => leaving_any k' m' x' y' W)
            rcases HTI.out with ⟨hk', ht'⟩ | ⟨hk', ht'⟩ | ⟨hk', ht'⟩ | ⟨hk', ht'⟩ | ⟨hk', ht'⟩ | ⟨hk', ht'⟩ | ⟨hk', ht'⟩ | ⟨hk', ht'⟩
            · have eE : (decide (k' = 2) || decide (k' = 3)) = true := by simp; omega
              have eL : (decide (k' = 5) || decide (k' = 6)) = false := by simp; omega
              have CE1 := CE.out
              have CL1 := CL.out
              rw [eE] at CE1
              rw [eL] at CL1
              have HCE := Lib.hid CE1
              have HCL := Lib.hid CL1
              clear CE1 CL1 CE CL eE eL
              have bk1 : (k' == 1) = false := by simp; omega
              have bk0 : (k' == 0) = false := by simp; omega
              have bk4 : (k' == 4) = false := by simp; omega
              have bt2 : (tt != 2) = false := by rw [ht']; rfl
              have bt5 : (tt != 5) = true := by rw [ht']; rfl
              have bt0 : (tt != 0) = true := by rw [ht']; rfl
              have bt6 : (tt != 6) = true := by rw [ht']; rfl
              have bt3 : (tt != 3) = true := by rw [ht']; rfl
              clear hk' ht' HTI
              go_wp2_with fail
              (with_reducible refine (HCE.out _).mono ?_)
              rintro e w12 ⟨rfl, hb12⟩
              have HK12 := Lib.hid (HK11.out.below hb12)
              obtain ⟨zc0, zc1, zc2, zc3, zc4, zc5⟩ := six_cells HK12.out.blk
              clear hb12
              go_wp2_with fail
              (with_reducible refine (HCL.out _).mono ?_)
              rintro e w13 ⟨rfl, hb13⟩
              have HK13 := Lib.hid (HK12.out.below hb13)
              obtain ⟨zc0, zc1, zc2, zc3, zc4, zc5⟩ := six_cells HK13.out.blk
              clear hb13
              go_wp2
              go_roundw
              case rel => obtain ⟨q, t9, h0, h1, h3⟩ := HEND; exact ⟨kk + 1, q, t9, by omega, h1.out, by go_num, h3.out, (by rw [h0.out]; exact HK13.out)⟩
              case measure => simp [intOf]; omega
            · have eE : (decide (k' = 2) || decide (k' = 3)) = false := by simp; omega
              have eL : (decide (k' = 5) || decide (k' = 6)) = true := by simp; omega
              have CE1 := CE.out
              have CL1 := CL.out
              rw [eE] at CE1
              rw [eL] at CL1
              have HCE := Lib.hid CE1
              have HCL := Lib.hid CL1
              clear CE1 CL1 CE CL eE eL
              have bk1 : (k' == 1) = false := by simp; omega
              have bk0 : (k' == 0) = false := by simp; omega
              have bk4 : (k' == 4) = false := by simp; omega
              have bt2 : (tt != 2) = true := by rw [ht']; rfl
              have bt5 : (tt != 5) = false := by rw [ht']; rfl
              have bt0 : (tt != 0) = true := by rw [ht']; rfl
              have bt6 : (tt != 6) = true := by rw [ht']; rfl
              have bt3 : (tt != 3) = true := by rw [ht']; rfl
              clear hk' ht' HTI
              go_wp2_with fail
              (with_reducible refine (HCE.out _).mono ?_)
              rintro e w12 ⟨rfl, hb12⟩
              have HK12 := Lib.hid (HK11.out.below hb12)
              obtain ⟨zc0, zc1, zc2, zc3, zc4, zc5⟩ := six_cells HK12.out.blk
              clear hb12
              go_wp2_with fail
              (with_reducible refine (HCL.out _).mono ?_)
              rintro e w13 ⟨rfl, hb13⟩
              have HK13 := Lib.hid (HK12.out.below hb13)
              obtain ⟨zc0, zc1, zc2, zc3, zc4, zc5⟩ := six_cells HK13.out.blk
              clear hb13
              go_wp2
              go_roundw
              case rel => obtain ⟨q, t9, h0, h1, h3⟩ := HEND; exact ⟨kk + 1, q, t9, by omega, h1.out, by go_num, h3.out, (by rw [h0.out]; exact HK13.out)⟩
              case measure => simp [intOf]; omega
            · have eE : (decide (k' = 2) || decide (k' = 3)) = false := by simp; omega
              have eL : (decide (k' = 5) || decide (k' = 6)) = false := by simp; omega
              have CE1 := CE.out
              have CL1 := CL.out
              rw [eE] at CE1
              rw [eL] at CL1
              have HCE := Lib.hid CE1
              have HCL := Lib.hid CL1
              clear CE1 CL1 CE CL eE eL
              have bk1 : (k' == 1) = true := by simp; omega
              have bk0 : (k' == 0) = false := by simp; omega
              have bk4 : (k' == 4) = false := by simp; omega
              have bt2 : (tt != 2) = true := by rw [ht']; rfl
              have bt5 : (tt != 5) = true := by rw [ht']; rfl
              have bt0 : (tt != 0) = false := by rw [ht']; rfl
              have bt6 : (tt != 6) = true := by rw [ht']; rfl
              have bt3 : (tt != 3) = true := by rw [ht']; rfl
              clear hk' ht' HTI
              go_wp2_with fail
              (with_reducible refine (HCE.out _).mono ?_)
              rintro e w12 ⟨rfl, hb12⟩
              have HK12 := Lib.hid (HK11.out.below hb12)
              obtain ⟨zc0, zc1, zc2, zc3, zc4, zc5⟩ := six_cells HK12.out.blk
              clear hb12
              go_wp2_with fail
              (with_reducible refine (HCL.out _).mono ?_)
              rintro e w13 ⟨rfl, hb13⟩
              have HK13 := Lib.hid (HK12.out.below hb13)
              obtain ⟨zc0, zc1, zc2, zc3, zc4, zc5⟩ := six_cells HK13.out.blk
              clear hb13
              go_wp2
              go_roundw
              case rel => obtain ⟨q, t9, h0, h1, h3⟩ := HEND; exact ⟨kk + 1, q, t9, by omega, h1.out, by go_num, h3.out, (by rw [h0.out]; exact HK13.out)⟩
              case measure => simp [intOf]; omega
            · have eE : (decide (k' = 2) || decide (k' = 3)) = false := by simp; omega
              have eL : (decide (k' = 5) || decide (k' = 6)) = false := by simp; omega
              have CE1 := CE.out
              have CL1 := CL.out
              rw [eE] at CE1
              rw [eL] at CL1
              have HCE := Lib.hid CE1
              have HCL := Lib.hid CL1
              clear CE1 CL1 CE CL eE eL
              have bk1 : (k' == 1) = true := by simp; omega
              have bk0 : (k' == 0) = false := by simp; omega
              have bk4 : (k' == 4) = false := by simp; omega
              have bt2 : (tt != 2) = true := by rw [ht']; rfl
              have bt5 : (tt != 5) = true := by rw [ht']; rfl
              have bt0 : (tt != 0) = true := by rw [ht']; rfl
              have bt6 : (tt != 6) = false := by rw [ht']; rfl
              have bt3 : (tt != 3) = true := by rw [ht']; rfl
              clear hk' ht' HTI
              go_wp2_with fail
              (with_reducible refine (HCE.out _).mono ?_)
              rintro e w12 ⟨rfl, hb12⟩
              have HK12 := Lib.hid (HK11.out.below hb12)
              obtain ⟨zc0, zc1, zc2, zc3, zc4, zc5⟩ := six_cells HK12.out.blk
              clear hb12
              go_wp2_with fail
              (with_reducible refine (HCL.out _).mono ?_)
              rintro e w13 ⟨rfl, hb13⟩
              have HK13 := Lib.hid (HK12.out.below hb13)
              obtain ⟨zc0, zc1, zc2, zc3, zc4, zc5⟩ := six_cells HK13.out.blk
              clear hb13
              go_wp2
              go_roundw
              case rel => obtain ⟨q, t9, h0, h1, h3⟩ := HEND; exact ⟨kk + 1, q, t9, by omega, h1.out, by go_num, h3.out, (by rw [h0.out]; exact HK13.out)⟩
              case measure => simp [intOf]; omega
            · have eE : (decide (k' = 2) || decide (k' = 3)) = false := by simp; omega
              have eL : (decide (k' = 5) || decide (k' = 6)) = false := by simp; omega
              have CE1 := CE.out
              have CL1 := CL.out
              rw [eE] at CE1
              rw [eL] at CL1
              have HCE := Lib.hid CE1
              have HCL := Lib.hid CL1
              clear CE1 CL1 CE CL eE eL
              have bk1 : (k' == 1) = false := by simp; omega
              have bk0 : (k' == 0) = true := by simp; omega
              have bk4 : (k' == 4) = false := by simp; omega
              have bt2 : (tt != 2) = true := by rw [ht']; rfl
              have bt5 : (tt != 5) = true := by rw [ht']; rfl
              have bt0 : (tt != 0) = false := by rw [ht']; rfl
              have bt6 : (tt != 6) = true := by rw [ht']; rfl
              have bt3 : (tt != 3) = true := by rw [ht']; rfl
              clear hk' ht' HTI
              go_wp2_with fail
              (with_reducible refine (HCE.out _).mono ?_)
              rintro e w12 ⟨rfl, hb12⟩
              have HK12 := Lib.hid (HK11.out.below hb12)
              obtain ⟨zc0, zc1, zc2, zc3, zc4, zc5⟩ := six_cells HK12.out.blk
              clear hb12
              go_wp2_with fail
              (with_reducible refine (HCL.out _).mono ?_)
              rintro e w13 ⟨rfl, hb13⟩
              have HK13 := Lib.hid (HK12.out.below hb13)
              obtain ⟨zc0, zc1, zc2, zc3, zc4, zc5⟩ := six_cells HK13.out.blk
              clear hb13
              go_wp2
              go_roundw
              case rel => obtain ⟨q, t9, h0, h1, h3⟩ := HEND; exact ⟨kk + 1, q, t9, by omega, h1.out, by go_num, h3.out, (by rw [h0.out]; exact HK13.out)⟩
              case measure => simp [intOf]; omega
            · have eE : (decide (k' = 2) || decide (k' = 3)) = false := by simp; omega
              have eL : (decide (k' = 5) || decide (k' = 6)) = false := by simp; omega
              have CE1 := CE.out
              have CL1 := CL.out
              rw [eE] at CE1
              rw [eL] at CL1
              have HCE := Lib.hid CE1
              have HCL := Lib.hid CL1
              clear CE1 CL1 CE CL eE eL
              have bk1 : (k' == 1) = false := by simp; omega
              have bk0 : (k' == 0) = true := by simp; omega
              have bk4 : (k' == 4) = false := by simp; omega
              have bt2 : (tt != 2) = true := by rw [ht']; rfl
              have bt5 : (tt != 5) = true := by rw [ht']; rfl
              have bt0 : (tt != 0) = true := by rw [ht']; rfl
              have bt6 : (tt != 6) = true := by rw [ht']; rfl
              have bt3 : (tt != 3) = false := by rw [ht']; rfl
              clear hk' ht' HTI
              go_wp2_with fail
              (with_reducible refine (HCE.out _).mono ?_)
              rintro e w12 ⟨rfl, hb12⟩
              have HK12 := Lib.hid (HK11.out.below hb12)
              obtain ⟨zc0, zc1, zc2, zc3, zc4, zc5⟩ := six_cells HK12.out.blk
              clear hb12
              go_wp2_with fail
              (with_reducible refine (HCL.out _).mono ?_)
              rintro e w13 ⟨rfl, hb13⟩
              have HK13 := Lib.hid (HK12.out.below hb13)
              obtain ⟨zc0, zc1, zc2, zc3, zc4, zc5⟩ := six_cells HK13.out.blk
              clear hb13
              go_wp2
              go_roundw
              case rel => obtain ⟨q, t9, h0, h1, h3⟩ := HEND; exact ⟨kk + 1, q, t9, by omega, h1.out, by go_num, h3.out, (by rw [h0.out]; exact HK13.out)⟩
              case measure => simp [intOf]; omega
            · have eE : (decide (k' = 2) || decide (k' = 3)) = false := by simp; omega
              have eL : (decide (k' = 5) || decide (k' = 6)) = false := by simp; omega
              have CE1 := CE.out
              have CL1 := CL.out
              rw [eE] at CE1
              rw [eL] at CL1
              have HCE := Lib.hid CE1
              have HCL := Lib.hid CL1
              clear CE1 CL1 CE CL eE eL
              have bk1 : (k' == 1) = false := by simp; omega
              have bk0 : (k' == 0) = false := by simp; omega
              have bk4 : (k' == 4) = true := by simp; omega
              have bt2 : (tt != 2) = true := by rw [ht']; rfl
              have bt5 : (tt != 5) = true := by rw [ht']; rfl
              have bt0 : (tt != 0) = false := by rw [ht']; rfl
              have bt6 : (tt != 6) = true := by rw [ht']; rfl
              have bt3 : (tt != 3) = true := by rw [ht']; rfl
              clear hk' ht' HTI
              go_wp2_with fail
              (with_reducible refine (HCE.out _).mono ?_)
              rintro e w12 ⟨rfl, hb12⟩
              have HK12 := Lib.hid (HK11.out.below hb12)
              obtain ⟨zc0, zc1, zc2, zc3, zc4, zc5⟩ := six_cells HK12.out.blk
              clear hb12
              go_wp2_with fail
              (with_reducible refine (HCL.out _).mono ?_)
              rintro e w13 ⟨rfl, hb13⟩
              have HK13 := Lib.hid (HK12.out.below hb13)
              obtain ⟨zc0, zc1, zc2, zc3, zc4, zc5⟩ := six_cells HK13.out.blk
              clear hb13
              go_wp2
              go_roundw
              case rel => obtain ⟨q, t9, h0, h1, h3⟩ := HEND; exact ⟨kk + 1, q, t9, by omega, h1.out, by go_num, h3.out, (by rw [h0.out]; exact HK13.out)⟩
              case measure => simp [intOf]; omega
            · have eE : (decide (k' = 2) || decide (k' = 3)) = false := by simp; omega
              have eL : (decide (k' = 5) || decide (k' = 6)) = false := by simp; omega
              have CE1 := CE.out
              have CL1 := CL.out
              rw [eE] at CE1
              rw [eL] at CL1
              have HCE := Lib.hid CE1
              have HCL := Lib.hid CL1
              clear CE1 CL1 CE CL eE eL
              have bk1 : (k' == 1) = false := by simp; omega
              have bk0 : (k' == 0) = false := by simp; omega
              have bk4 : (k' == 4) = true := by simp; omega
              have bt2 : (tt != 2) = true := by rw [ht']; rfl
              have bt5 : (tt != 5) = true := by rw [ht']; rfl
              have bt0 : (tt != 0) = true := by rw [ht']; rfl
              have bt6 : (tt != 6) = true := by rw [ht']; rfl
              have bt3 : (tt != 3) = false := by rw [ht']; rfl
              clear hk' ht' HTI
              go_wp2_with fail
              (with_reducible refine (HCE.out _).mono ?_)
              rintro e w12 ⟨rfl, hb12⟩
              have HK12 := Lib.hid (HK11.out.below hb12)
              obtain ⟨zc0, zc1, zc2, zc3, zc4, zc5⟩ := six_cells HK12.out.blk
              clear hb12
              go_wp2_with fail
              (with_reducible refine (HCL.out _).mono ?_)
              rintro e w13 ⟨rfl, hb13⟩
              have HK13 := Lib.hid (HK12.out.below hb13)
              obtain ⟨zc0, zc1, zc2, zc3, zc4, zc5⟩ := six_cells HK13.out.blk
              clear hb13
              go_wp2
              go_roundw
              case rel => obtain ⟨q, t9, h0, h1, h3⟩ := HEND; exact ⟨kk + 1, q, t9, by omega, h1.out, by go_num, h3.out, (by rw [h0.out]; exact HK13.out)⟩
              case measure => simp [intOf]; omega
          · have hg9 : tt = 6 ∨ tt = 0 ∨ tt = 3 := by rw [HTT.out]; exact HSTEP.out.gone rfl
            rcases hg9 with h9 | h9 | h9
            · have b6 : (tt == 6) = true := by rw [h9]; rfl
              clear h9
              go_wp2
              go_ret
              exact ⟨rfl, HK11.out.bel⟩
            · have b6 : (tt == 6) = false := by rw [h9]; rfl
              have b0 : (tt == 0) = true := by rw [h9]; rfl
              clear h9
              go_wp2
              go_ret
              exact ⟨rfl, HK11.out.bel⟩
            · have b6 : (tt == 6) = false := by rw [h9]; rfl
              have b0 : (tt == 0) = false := by rw [h9]; rfl
              have b3 : (tt == 3) = true := by rw [h9]; rfl
              clear h9
              go_wp2
              go_ret
              exact ⟨rfl, HK11.out.bel⟩
    · have hd : kk = n ∨ (kk < n ∧ 60 ≤ kk) := by omega
      clear hrun
      rcases hd with rfl | ⟨hlt, h60⟩
      · go_wp2
        go_ret
        exact ⟨rfl, hkd.out.bel⟩
      · have h60' : ¬ kk < 60 := by omega
        go_wp2
        go_ret
        exact ⟨rfl, hkd.out.bel⟩
end Ph
end Go.Proofs.Ytenolokklkklbaa
