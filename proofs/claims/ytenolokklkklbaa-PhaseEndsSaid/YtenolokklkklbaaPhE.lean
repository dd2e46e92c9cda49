/- PhaseEnds: behind its frames, and what it waits for, all is over. -/
import Derived.Test.YtenolokklkklbaaPhOpen
import Derived.Test.YtenolokklkklbaaPhQ
import Derived.Test.YtenolokklkklbaaPhLaws
import Derived.Deep.RegionHeld3
namespace Go.Proofs.Ytenolokklkklbaa
open Go.RowKit Ph
set_option linter.unusedVariables false
namespace Ph
/-- what lies in memory while calls are made: the kid in its block -/
structure Kid (w wr : World) (z : Nat) (s : St) : Prop where
  bel : Below w.heap.size w wr
  base : w.heap.size ≤ z
  blk : Blk wr z 27 (stc s)
theorem Kid.below {w wr w' : World} {z : Nat} {s : St} (h : Kid w wr z s) (hb : Below wr.heap.size wr w') : Kid w w' z s := ⟨h.bel.trans (hb.mono h.bel.size), h.base, h.blk.below hb⟩
theorem blk_set6 {w : World} {b : Nat} {t : TypeId} {y0 y1 y2 y3 y4 y5 x0 x1 x2 x3 x4 x5 : Value} (h : Blk w b t #[y0, y1, y2, y3, y4, y5]) : Blk ((((((w.setCell ⟨b, 0, none⟩ x0).setCell ⟨b, 1, none⟩ x1).setCell ⟨b, 2, none⟩ x2).setCell ⟨b, 3, none⟩ x3).setCell ⟨b, 4, none⟩ x4).setCell ⟨b, 5, none⟩ x5) b t #[x0, x1, x2, x3, x4, x5] :=
  (((((h.set 0 x0).set 1 x1).set 2 x2).set 3 x3).set 4 x4).set 5 x5
theorem Kid.put {w wr : World} {z : Nat} {s : St} (h : Kid w wr z s) (q : St) : Kid w ((((((wr.setCell ⟨z, 0, none⟩ (.int .i64 q.k)).setCell ⟨z, 1, none⟩ (.int .i64 q.m)).setCell ⟨z, 2, none⟩ (.int .i64 q.x)).setCell ⟨z, 3, none⟩ (.int .i64 q.y)).setCell ⟨z, 4, none⟩ (.int .i64 q.d)).setCell ⟨z, 5, none⟩ (.int .i64 q.e)) z q :=
  ⟨bset' (bset' (bset' (bset' (bset' (bset' h.bel h.base _ _) h.base _ _) h.base _ _) h.base _ _) h.base _ _) h.base _ _, h.base, blk_set6 h.blk⟩
theorem below_more {a w : World} (h : Below a.heap.size a w) (o : Obj) : Below a.heap.size a (w.alloc o) := h.alloc h.size o
theorem below_join {a b c : World} (h : Below a.heap.size a b) (k : Below b.heap.size b c) : Below a.heap.size a c := h.trans (k.mono h.size)
theorem below_heap {B : Nat} {a w w' : World} (h : Below B a w) (h1 : w'.heap = w.heap) (h2 : w'.os = w.os) (h3 : w'.tape = w.tape) (h4 : w'.output = w.output) : Below B a w' :=
  ⟨h2.trans h.os, h3.trans h.tape, h4.trans h.output, by rw [h1]; exact h.size, fun j hj => by rw [h1]; exact h.block j hj⟩
theorem far1 {w : World} {z k g i : Nat} {x v : Value} (h : w.cell? ⟨g, i, none⟩ = some v) (hne : g ≠ z) : (w.setCell ⟨z, k, none⟩ x).cell? ⟨g, i, none⟩ = some v := (World.cell?_of_block (w := w) (set_other hne k x)).trans h
theorem far6 {w : World} {z g i : Nat} {v x0 x1 x2 x3 x4 x5 : Value} (h : w.cell? ⟨g, i, none⟩ = some v) (hne : g ≠ z) : ((((((w.setCell ⟨z, 0, none⟩ x0).setCell ⟨z, 1, none⟩ x1).setCell ⟨z, 2, none⟩ x2).setCell ⟨z, 3, none⟩ x3).setCell ⟨z, 4, none⟩ x4).setCell ⟨z, 5, none⟩ x5).cell? ⟨g, i, none⟩ = some v := far1 (far1 (far1 (far1 (far1 (far1 h hne) hne) hne) hne) hne) hne
set_option maxHeartbeats 40000000 in
set_option maxRecDepth 100000 in
theorem phaseEnds_any (b : Bool) (A : Option Addr) (n c : Nat) (L : List Ac) (w : World) (h : ActsIn w A n c L) :
    Calls Try.prog 4 #[.bool b, .slice A n c] w fun e w' => e = .returned (.bool true) ∧ Below w.heap.size w w' := by
  obtain ⟨hn, hc, hm, hat, _, hA⟩ := h
  unfold maxLen at hm
  have HN := Lib.hid hn
  have HAT : Hid (At w A (als L)) := hat
  clear hn hat hA
  go_enter Try.func4, Try.ntmps4
  go_wp2_with fail
  (with_reducible refine (awake_any _).mono ?_)
  rintro e w1 ⟨rfl, hb1⟩
  have HB1 := Lib.hid hb1
  clear hb1
  go_wp2_with fail
  (with_reducible refine (new_any b _).mono ?_)
  rintro e w2 ⟨rfl, hb2⟩
  have HB2 := Lib.hid (HB1.out.trans (hb2.mono HB1.out.size))
  clear hb2
  unfold stc
  obtain ⟨z, hz⟩ : ∃ z, z = w2.heap.size := ⟨_, rfl⟩
  have HK : Hid (Kid w (w2.alloc (.cells (stc (fresh b)) 27)) z (fresh b)) := ⟨HB2.out.alloc HB2.out.size _, by rw [hz]; exact HB2.out.size, hz ▸ Blk.new w2 _ _⟩
  have HF := Lib.hid (fine_fresh b)
  have HZ := Lib.hid hz
  unfold stc at HK
  go_wp2
  rw [← HZ.out]
  clear hz
  go_loopw [6] (fun i wr => ∃ (k : Nat) (s : St), k ≤ n ∧ i = .int .i64 k ∧ Hid (Fine s) ∧ Hid (Kid w wr z s)) (fun i _ => n - (intOf i).toNat)
  case atStart => exact ⟨0, fresh b, Nat.zero_le _, rfl, HF.out, HK.out⟩
  case round =>
    obtain ⟨k, s, hk, rfl, hf, hkd⟩ := hrel
    go_upto_region 5 with fail
    go_cut [21] (fun p wx => p = .bool (decide (k < n ∧ k < 40)) ∧ wr = wx)
    case first =>
      by_cases hlt : k < n
      · by_cases h40 : k < 40
        · have e9 : decide (k < n ∧ k < 40) = true := by simp [hlt, h40]
          have e8 : decide ((k : Int) < 40) = true := by simp; omega
          go_wp2_with fail
          go_meet
          exact ⟨by rw [e9], rfl⟩
        · have e9 : decide (k < n ∧ k < 40) = false := by simp [h40]
          have e8 : decide ((k : Int) < 40) = false := by simp; omega
          go_wp2_with fail
          go_meet
          exact ⟨by rw [e9], rfl⟩
      · have e9 : decide (k < n ∧ k < 40) = false := by simp [hlt]
        have e8 : decide (k < n) = false := by simp; omega
        go_wp2_with fail
        go_meet
        exact ⟨by rw [e9], rfl⟩
    case' rest =>
      obtain ⟨rfl, rfl⟩ := hcut
    by_cases hrun : k < n ∧ k < 40
    · have hd : decide (k < n ∧ k < 40) = true := by simpa using hrun
      rw [hd]
      obtain ⟨hlt, h40⟩ := hrun
      have hkL : k < L.length := by have := HN.out; omega
      obtain ⟨ab, ao, rfl, hab, ha0⟩ := at_ac HAT.out hkL
      generalize L[k] = a at ha0
      obtain ⟨U, hU⟩ : ∃ U, U = wr := ⟨_, rfl⟩
      subst hU
      have hbl := hkd.out.bel
      have ka : ab < U.heap.size := Nat.lt_of_lt_of_le hab hbl.size
      have kz : z < U.heap.size := hkd.out.blk.lt
      obtain ⟨f0, f1, f2, f3, f4, f5⟩ := six_cells hkd.out.blk
      obtain ⟨g6, g7, g8, g9, g10⟩ := ha0
      have f6 := (hbl.cell (p := ⟨ab, ao + k * 5, none⟩) hab).trans g6
      have f7 := (hbl.cell (p := ⟨ab, ao + k * 5 + 1, none⟩) hab).trans g7
      have f8 := (hbl.cell (p := ⟨ab, ao + k * 5 + 2, none⟩) hab).trans g8
      have f9 := (hbl.cell (p := ⟨ab, ao + k * 5 + 3, none⟩) hab).trans g9
      have f10 := (hbl.cell (p := ⟨ab, ao + k * 5 + 4, none⟩) hab).trans g10
      have CF := Lib.hid (fun W => do_any s a W)
      unfold stc acc at CF
      have HFP : Hid (Fine (pdo s a).s) := fine_pdo s a hf.out
      generalize pdo s a = o at *
      clear g6 g7 g8 g9 g10 hbl hab
      go_upto_region 7 with fail
      go_cut [7] (fun p wx => ∃ (g : Nat) (hv : Value), p = .pointer (some ⟨g, 0, none⟩) ∧ Hid (Blk wx g 34 (ouc o hv)) ∧ Hid (Below U.heap.size U wx) ∧ U.heap.size ≤ g)
      case first =>
        have HBB := Below.refl U.heap.size U
        go_region_with (first | (go_at_call 9; (with_reducible refine (CF.out _).mono ?_); rintro e9 w5 ⟨v5, rfl, ho5, hb5⟩; obtain ⟨A5, c5, rfl, hcc5, _, hat5⟩ := at_of_own' ho5; unfold ouc; have B5 : Below U.heap.size U w5 := below_join (by first | exact Below.refl _ _ | exact Below_drew HBB | exact Below_drew (below_more HBB _)) hb5; have HB5 := Lib.hid B5; have r0 := (B5.cell (p := ⟨z, 0, none⟩) kz).trans f0; have r1 := (B5.cell (p := ⟨z, 1, none⟩) kz).trans f1; have r2 := (B5.cell (p := ⟨z, 2, none⟩) kz).trans f2; have r3 := (B5.cell (p := ⟨z, 3, none⟩) kz).trans f3; have r4 := (B5.cell (p := ⟨z, 4, none⟩) kz).trans f4; have r5 := (B5.cell (p := ⟨z, 5, none⟩) kz).trans f5; have r6 := (B5.cell (p := ⟨ab, ao + k * 5, none⟩) ka).trans f6; have r7 := (B5.cell (p := ⟨ab, ao + k * 5 + 1, none⟩) ka).trans f7; have r8 := (B5.cell (p := ⟨ab, ao + k * 5 + 2, none⟩) ka).trans f8; have r9 := (B5.cell (p := ⟨ab, ao + k * 5 + 3, none⟩) ka).trans f9; have r10 := (B5.cell (p := ⟨ab, ao + k * 5 + 4, none⟩) ka).trans f10; (first | (have hz9 : Blk w5 U.heap.size 34 zo := (by refine Blk.belowB ?_ hb5 ?_; exact Blk.new U 34 zo; simp); obtain ⟨rc0, rc1, rc2, rc3, rc4, rc5, rc6, rc7, rc8, rc9, rc10, rc11⟩ := blk12 hz9; obtain ⟨rz0, rz1, rz2, rz3, rz4, rz5, rz6, rz7, rz8, rz9, rz10, rz11⟩ := frz12 hz9; have HZ9 := Lib.hid hz9; clear hz9) | skip)))
        all_goals (go_wp2_with fail; go_meet; first
          | (refine ⟨w5.heap.size, .slice A5 o.h.length c5, ?_, ?_⟩; (with_reducible rfl); exact ⟨Lib.hid (Blk.new w5 34 (ouc o (.slice A5 o.h.length c5))), HB5.out.alloc HB5.out.size _, HB5.out.size⟩)
          | exact ⟨U.heap.size, .slice A5 o.h.length c5, rfl, Lib.hid (blk_set12 (x0 := .int .i64 o.s.k) (x1 := .int .i64 o.s.m) (x2 := .int .i64 o.s.x) (x3 := .int .i64 o.s.y) (x4 := .int .i64 o.s.d) (x5 := .int .i64 o.s.e) (x6 := .slice A5 o.h.length c5) (x7 := .int .i64 o.j) (x8 := .int .i64 o.mj) (x9 := .bool o.en) (x10 := .bool o.me) (x11 := .bool o.go) HZ9.out), bes_set12.below HB5.out HB5.out.size (fun g hg => by omega), Nat.le_refl _⟩
          | go_loud (exact (0 : Nat)))
      case rest =>
        obtain ⟨g, hv, rfl, HB, HBx, hg⟩ := hcut
        have hkx := Lib.hid (hkd.out.below HBx.out)
        obtain ⟨gc0, gc1, gc2, gc3, gc4, gc5, gc6, gc7, gc8, gc9, gc10, gc11⟩ := blk12 HB.out
        have gne : z ≠ g := by omega
        have gne' : g ≠ z := by omega
        have gd := far6 (z := z) (x0 := .int .i64 o.s.k) (x1 := .int .i64 o.s.m) (x2 := .int .i64 o.s.x) (x3 := .int .i64 o.s.y) (x4 := .int .i64 o.s.d) (x5 := .int .i64 o.s.e) gc11 gne'
        clear f0 f1 f2 f3 f4 f5 f6 f7 f8 f9 f10
        obtain ⟨zc0, zc1, zc2, zc3, zc4, zc5⟩ := six_cells hkx.out.blk
        have zz := hkx.out.blk.frozen
        have zz0 := zz 0; have zz1 := zz 1; have zz2 := zz 2; have zz3 := zz 3; have zz4 := zz 4; have zz5 := zz 5
        clear zz
        have hk9 := hkx.out.put o.s
        obtain ⟨w9, hw9⟩ : ∃ W, W = ((((((wc.setCell ⟨z, 0, none⟩ (.int .i64 o.s.k)).setCell ⟨z, 1, none⟩ (.int .i64 o.s.m)).setCell ⟨z, 2, none⟩ (.int .i64 o.s.x)).setCell ⟨z, 3, none⟩ (.int .i64 o.s.y)).setCell ⟨z, 4, none⟩ (.int .i64 o.s.d)).setCell ⟨z, 5, none⟩ (.int .i64 o.s.e)) := ⟨_, rfl⟩
        rw [← hw9] at hk9
        have HW9 := Lib.hid hw9
        have HK9 := Lib.hid hk9
        clear hk9
        go_upto_region 9 with fail
        rw [← HW9.out]
        clear zc0 zc1 zc2 zc3 zc4 zc5 zz0 zz1 zz2 zz3 zz4 zz5
        have gd9 : w9.cell? ⟨g, 11, none⟩ = some (.bool o.go) := by rw [hw9]; exact gd
        clear gd hw9
        cases hgo : o.go
        · rw [hgo] at gd9
          go_wp2
          go_roundw
          case rel => exact ⟨k + 1, o.s, by omega, by go_num, HFP.out, HK9.out⟩
          case measure => simp [intOf]; omega
        · rw [hgo] at gd9
          go_wp2
          go_ret
          exact ⟨rfl, HK9.out.bel⟩
    · have hd : decide (k < n ∧ k < 40) = false := by simpa using hrun
      rw [hd]
      clear hrun hd
      go_upto_region 11 with fail
      have HE := Lib.hid (ends_step s hf.out)
      clear hf
      have C1 := Lib.hid (fun W => frame_any s W)
      unfold stc at C1
      obtain ⟨zc0, zc1, zc2, zc3, zc4, zc5⟩ := six_cells hkd.out.blk
      go_wp2_with fail
      (with_reducible refine (C1.out _).mono ?_)
      rintro e v1 ⟨hv, rfl, ho, hb⟩
      obtain ⟨A1, c1, rfl, _, _⟩ := own_slice ho
      unfold ouc
      have hk1 := Lib.hid (hkd.out.below hb)
      clear hb ho C1 zc0 zc1 zc2 zc3 zc4 zc5
      obtain ⟨zc0, zc1, zc2, zc3, zc4, zc5⟩ := six_cells hk1.out.blk
      have zz := hk1.out.blk.frozen
      have zz0 := zz 0; have zz1 := zz 1; have zz2 := zz 2; have zz3 := zz 3; have zz4 := zz 4; have zz5 := zz 5
      clear zz
      have hk9 := hk1.out.put (frame s).s
      obtain ⟨w1, hw9⟩ : ∃ W, W = ((((((v1.setCell ⟨z, 0, none⟩ (.int .i64 (frame s).s.k)).setCell ⟨z, 1, none⟩ (.int .i64 (frame s).s.m)).setCell ⟨z, 2, none⟩ (.int .i64 (frame s).s.x)).setCell ⟨z, 3, none⟩ (.int .i64 (frame s).s.y)).setCell ⟨z, 4, none⟩ (.int .i64 (frame s).s.d)).setCell ⟨z, 5, none⟩ (.int .i64 (frame s).s.e)) := ⟨_, rfl⟩
      rw [← hw9] at hk9
      have HW1 := Lib.hid hw9
      have HK1 := Lib.hid hk9
      clear hk9
      go_upto_region 12 with fail
      rw [← HW1.out]
      clear zc0 zc1 zc2 zc3 zc4 zc5 zz0 zz1 zz2 zz3 zz4 zz5
      clear hw9
      generalize (frame s).s = s1 at *
      have C2 := Lib.hid (fun W => moveFrame_any s1 W)
      unfold stc at C2
      obtain ⟨zc0, zc1, zc2, zc3, zc4, zc5⟩ := six_cells HK1.out.blk
      go_wp2_with fail
      (with_reducible refine (C2.out _).mono ?_)
      rintro e v2 ⟨hv, rfl, ho, hb⟩
      obtain ⟨A2, c2, rfl, _, _⟩ := own_slice ho
      unfold ouc
      have hk2 := Lib.hid (HK1.out.below hb)
      clear hb ho C2 zc0 zc1 zc2 zc3 zc4 zc5
      obtain ⟨zc0, zc1, zc2, zc3, zc4, zc5⟩ := six_cells hk2.out.blk
      have zz := hk2.out.blk.frozen
      have zz0 := zz 0; have zz1 := zz 1; have zz2 := zz 2; have zz3 := zz 3; have zz4 := zz 4; have zz5 := zz 5
      clear zz
      have hk9 := hk2.out.put (moveFrame s1).s
      obtain ⟨w2, hw9⟩ : ∃ W, W = ((((((v2.setCell ⟨z, 0, none⟩ (.int .i64 (moveFrame s1).s.k)).setCell ⟨z, 1, none⟩ (.int .i64 (moveFrame s1).s.m)).setCell ⟨z, 2, none⟩ (.int .i64 (moveFrame s1).s.x)).setCell ⟨z, 3, none⟩ (.int .i64 (moveFrame s1).s.y)).setCell ⟨z, 4, none⟩ (.int .i64 (moveFrame s1).s.d)).setCell ⟨z, 5, none⟩ (.int .i64 (moveFrame s1).s.e)) := ⟨_, rfl⟩
      rw [← hw9] at hk9
      have HW2 := Lib.hid hw9
      have HK2 := Lib.hid hk9
      clear hk9
      go_upto_region 13 with fail
      rw [← HW2.out]
      clear zc0 zc1 zc2 zc3 zc4 zc5 zz0 zz1 zz2 zz3 zz4 zz5
      clear hw9
      generalize (moveFrame s1).s = s2 at *
      have C3 := Lib.hid (fun W => finish_any s2 W)
      unfold stc at C3
      obtain ⟨zc0, zc1, zc2, zc3, zc4, zc5⟩ := six_cells HK2.out.blk
      go_wp2_with fail
      (with_reducible refine (C3.out _).mono ?_)
      rintro e v3 ⟨hv, rfl, ho, hb⟩
      obtain ⟨A, c, rfl, _, _⟩ := own_slice ho
      unfold ouc
      have hk3 := Lib.hid ((HK2.out.below hb).below (below_alloc v3 (.cells (ouc (finish s2) (.slice A (finish s2).h.length c)) 34)))
      have hq3 := Blk.new v3 34 (ouc (finish s2) (.slice A (finish s2).h.length c))
      clear hb ho C3 zc0 zc1 zc2 zc3 zc4 zc5
      obtain ⟨V3, hV3⟩ : ∃ V3, V3 = v3.alloc (.cells (ouc (finish s2) (.slice A (finish s2).h.length c)) 34) := ⟨_, rfl⟩
      rw [← hV3] at hk3 hq3
      have HV3 := Lib.hid hV3
      clear hV3
      unfold ouc at HV3 hq3
      generalize hq : finish s2 = q at *
      clear hq
      go_upto_region 14 with fail
      rw [← HV3.out]
      obtain ⟨gc0, gc1, gc2, gc3, gc4, gc5, gc6, gc7, gc8, gc9, gc10, gc11⟩ := blk12 hq3
      have HQ3 := Lib.hid hq3
      clear hq3
      cases hgo : q.go
      · rw [hgo] at gc11
        have HS := Lib.hid (HE.out.2 hgo)
        clear HE hgo
        have C4 := Lib.hid (fun W => moveFinish_any q.s W)
        unfold stc at C4
        go_wp2_with fail
        (with_reducible refine (C4.out _).mono ?_)
        rintro e v4 ⟨hv, rfl, ho, hb⟩
        obtain ⟨A4, c4, rfl, _, _⟩ := own_slice ho
        unfold ouc
        have hk4 := Lib.hid (hk3.out.below hb)
        clear hb ho C4 gc0 gc1 gc2 gc3 gc4 gc5 gc6 gc7 gc8 gc9 gc10 gc11
        obtain ⟨zc0, zc1, zc2, zc3, zc4, zc5⟩ := six_cells hk4.out.blk
        have zz := hk4.out.blk.frozen
        have zz0 := zz 0; have zz1 := zz 1; have zz2 := zz 2; have zz3 := zz 3; have zz4 := zz 4; have zz5 := zz 5
        clear zz
        have hk9 := hk4.out.put (moveFinish q.s).s
        obtain ⟨w4, hw9⟩ : ∃ W, W = ((((((v4.setCell ⟨z, 0, none⟩ (.int .i64 (moveFinish q.s).s.k)).setCell ⟨z, 1, none⟩ (.int .i64 (moveFinish q.s).s.m)).setCell ⟨z, 2, none⟩ (.int .i64 (moveFinish q.s).s.x)).setCell ⟨z, 3, none⟩ (.int .i64 (moveFinish q.s).s.y)).setCell ⟨z, 4, none⟩ (.int .i64 (moveFinish q.s).s.d)).setCell ⟨z, 5, none⟩ (.int .i64 (moveFinish q.s).s.e)) := ⟨_, rfl⟩
        rw [← hw9] at hk9
        have HW4 := Lib.hid hw9
        have HK4 := Lib.hid hk9
        clear hk9
        go_upto_region 17 with fail
        rw [← HW4.out]
        clear zc0 zc1 zc2 zc3 zc4 zc5 zz0 zz1 zz2 zz3 zz4 zz5
        clear hw9
        generalize (moveFinish q.s).s = s4 at *
        have C5 := Lib.hid (fun W => finish_any s4 W)
        unfold stc at C5
        obtain ⟨zc0, zc1, zc2, zc3, zc4, zc5⟩ := six_cells HK4.out.blk
        go_wp2_with fail
        (with_reducible refine (C5.out _).mono ?_)
        rintro e v5 ⟨hv, rfl, ho, hb⟩
        obtain ⟨A5, c5, rfl, _, _⟩ := own_slice ho
        obtain ⟨hs1, hs2, hs3, hs4⟩ := HS.out
        have HM := Lib.hid hs2
        have HS1 := Lib.hid hs1
        clear hs2 hs1
        unfold ouc
        rw [hs3, hs4]
        have hk5 := Lib.hid ((HK4.out.below hb).below (below_alloc v5 (.cells #[.int .i64 s4.k, .int .i64 s4.m, .int .i64 s4.x, .int .i64 s4.y, .int .i64 s4.d, .int .i64 s4.e, .slice A5 (finish s4).h.length c5, .int .i64 (finish s4).j, .int .i64 (finish s4).mj, .bool false, .bool (finish s4).me, .bool (finish s4).go] 34)))
        have hq5 := Blk.new v5 34 #[.int .i64 s4.k, .int .i64 s4.m, .int .i64 s4.x, .int .i64 s4.y, .int .i64 s4.d, .int .i64 s4.e, .slice A5 (finish s4).h.length c5, .int .i64 (finish s4).j, .int .i64 (finish s4).mj, .bool false, .bool (finish s4).me, .bool (finish s4).go]
        obtain ⟨V5, hV5⟩ : ∃ V5, V5 = v5.alloc (.cells #[.int .i64 s4.k, .int .i64 s4.m, .int .i64 s4.x, .int .i64 s4.y, .int .i64 s4.d, .int .i64 s4.e, .slice A5 (finish s4).h.length c5, .int .i64 (finish s4).j, .int .i64 (finish s4).mj, .bool false, .bool (finish s4).me, .bool (finish s4).go] 34) := ⟨_, rfl⟩
        rw [← hV5] at hk5 hq5
        have HV5 := Lib.hid hV5
        obtain ⟨q5, hq5e⟩ : ∃ q5, q5 = v5.heap.size := ⟨_, rfl⟩
        rw [← hq5e] at hq5
        have HQ5E := Lib.hid hq5e
        clear hV5 hb ho C5 zc0 zc1 zc2 zc3 zc4 zc5 hs3 hs4 HS hq5e
        go_upto_region 18 with fail
        rw [← HV5.out, ← HQ5E.out]
        have hm0 : (s4.m == 0) = true := by simpa using HM.out
        obtain ⟨f0, f1, f2, f3, f4, f5⟩ := six_cells hk5.out.blk
        obtain ⟨e0, e1, e2, e3, e4, e5, e6, e7, e8, e9, e10, e11⟩ := blk12 hq5
        have CT := Lib.hid (fun W => told_any s4 W)
        unfold stc at CT
        have kz := hk5.out.blk.lt
        have kq : q5 < V5.heap.size := Blk.lt hq5
        have HBU := Lib.hid hk5.out.bel
        clear hq5 hk5 HK4
        obtain ⟨U, hU⟩ : ∃ U, U = V5 := ⟨_, rfl⟩
        subst hU
        have HBB := Below.refl U.heap.size U
        rcases HS1.out with hs1 | hs1 | hs1
        · have hz0 : (s4.k == 0) = true := by rw [hs1]; rfl
          clear hs1
          first | go_region_with (first | (go_at_call 18; (with_reducible refine (CT.out _).mono ?_); rintro e9 w6 ⟨rfl, hb6⟩; have B6 : Below U.heap.size U w6 := below_join (by first | assumption | exact Below.refl _ _ | exact Below_drew HBB | exact below_heap HBB rfl rfl rfl rfl | exact Below_drew (by assumption) | (refine below_heap ?_ rfl rfl rfl rfl; assumption)) hb6; have r0 := (B6.cell (p := ⟨z, 0, none⟩) kz).trans f0; have r1 := (B6.cell (p := ⟨z, 1, none⟩) kz).trans f1; have r2 := (B6.cell (p := ⟨z, 2, none⟩) kz).trans f2; have r3 := (B6.cell (p := ⟨z, 3, none⟩) kz).trans f3; have r4 := (B6.cell (p := ⟨z, 4, none⟩) kz).trans f4; have r5 := (B6.cell (p := ⟨z, 5, none⟩) kz).trans f5; have r6 := (B6.cell (p := ⟨q5, 0, none⟩) kq).trans e0; have r7 := (B6.cell (p := ⟨q5, 1, none⟩) kq).trans e1; have r8 := (B6.cell (p := ⟨q5, 2, none⟩) kq).trans e2; have r9 := (B6.cell (p := ⟨q5, 3, none⟩) kq).trans e3; have r10 := (B6.cell (p := ⟨q5, 4, none⟩) kq).trans e4; have r11 := (B6.cell (p := ⟨q5, 5, none⟩) kq).trans e5; have r12 := (B6.cell (p := ⟨q5, 9, none⟩) kq).trans e9; clear hb6)) | fail
          all_goals (go_wp2_with fail; (try go_wp2); go_ret; exact ⟨rfl, by first | exact HBU.out.trans ((by assumption : Below U.heap.size U _).mono HBU.out.size) | go_loud (exact (0 : Nat))⟩)
        · have hz0 : (s4.k == 0) = false := by rw [hs1]; rfl
          have hz1 : (s4.k == 1) = true := by rw [hs1]; rfl
          clear hs1
          first | go_region_with (first | (go_at_call 18; (with_reducible refine (CT.out _).mono ?_); rintro e9 w6 ⟨rfl, hb6⟩; have B6 : Below U.heap.size U w6 := below_join (by first | assumption | exact Below.refl _ _ | exact Below_drew HBB | exact below_heap HBB rfl rfl rfl rfl | exact Below_drew (by assumption) | (refine below_heap ?_ rfl rfl rfl rfl; assumption)) hb6; have r0 := (B6.cell (p := ⟨z, 0, none⟩) kz).trans f0; have r1 := (B6.cell (p := ⟨z, 1, none⟩) kz).trans f1; have r2 := (B6.cell (p := ⟨z, 2, none⟩) kz).trans f2; have r3 := (B6.cell (p := ⟨z, 3, none⟩) kz).trans f3; have r4 := (B6.cell (p := ⟨z, 4, none⟩) kz).trans f4; have r5 := (B6.cell (p := ⟨z, 5, none⟩) kz).trans f5; have r6 := (B6.cell (p := ⟨q5, 0, none⟩) kq).trans e0; have r7 := (B6.cell (p := ⟨q5, 1, none⟩) kq).trans e1; have r8 := (B6.cell (p := ⟨q5, 2, none⟩) kq).trans e2; have r9 := (B6.cell (p := ⟨q5, 3, none⟩) kq).trans e3; have r10 := (B6.cell (p := ⟨q5, 4, none⟩) kq).trans e4; have r11 := (B6.cell (p := ⟨q5, 5, none⟩) kq).trans e5; have r12 := (B6.cell (p := ⟨q5, 9, none⟩) kq).trans e9; clear hb6)) | fail
          all_goals (go_wp2_with fail; (try go_wp2); go_ret; exact ⟨rfl, by first | exact HBU.out.trans ((by assumption : Below U.heap.size U _).mono HBU.out.size) | go_loud (exact (0 : Nat))⟩)
        · have hz0 : (s4.k == 0) = false := by rw [hs1]; rfl
          have hz1 : (s4.k == 1) = false := by rw [hs1]; rfl
          have hz2 : (s4.k == 4) = true := by rw [hs1]; rfl
          clear hs1
          first | go_region_with (first | (go_at_call 18; (with_reducible refine (CT.out _).mono ?_); rintro e9 w6 ⟨rfl, hb6⟩; have B6 : Below U.heap.size U w6 := below_join (by first | assumption | exact Below.refl _ _ | exact Below_drew HBB | exact below_heap HBB rfl rfl rfl rfl | exact Below_drew (by assumption) | (refine below_heap ?_ rfl rfl rfl rfl; assumption)) hb6; have r0 := (B6.cell (p := ⟨z, 0, none⟩) kz).trans f0; have r1 := (B6.cell (p := ⟨z, 1, none⟩) kz).trans f1; have r2 := (B6.cell (p := ⟨z, 2, none⟩) kz).trans f2; have r3 := (B6.cell (p := ⟨z, 3, none⟩) kz).trans f3; have r4 := (B6.cell (p := ⟨z, 4, none⟩) kz).trans f4; have r5 := (B6.cell (p := ⟨z, 5, none⟩) kz).trans f5; have r6 := (B6.cell (p := ⟨q5, 0, none⟩) kq).trans e0; have r7 := (B6.cell (p := ⟨q5, 1, none⟩) kq).trans e1; have r8 := (B6.cell (p := ⟨q5, 2, none⟩) kq).trans e2; have r9 := (B6.cell (p := ⟨q5, 3, none⟩) kq).trans e3; have r10 := (B6.cell (p := ⟨q5, 4, none⟩) kq).trans e4; have r11 := (B6.cell (p := ⟨q5, 5, none⟩) kq).trans e5; have r12 := (B6.cell (p := ⟨q5, 9, none⟩) kq).trans e9; clear hb6)) | fail
          all_goals (go_wp2_with fail; (try go_wp2); go_ret; exact ⟨rfl, by first | exact HBU.out.trans ((by assumption : Below U.heap.size U _).mono HBU.out.size) | go_loud (exact (0 : Nat))⟩)
      · rw [hgo] at gc11
        have HL := Lib.hid (HE.out.1 hgo)
        obtain ⟨zc0, zc1, zc2, zc3, zc4, zc5⟩ := six_cells hk3.out.blk
        have CL := fun W => leaving_any s2.k s2.m s2.x s2.y W
        have hql : s2.lea = (decide (s2.k = 5) || decide (s2.k = 6)) := rfl
        rw [← hql, HL.out] at CL
        have HCL := Lib.hid CL
        clear CL hql HE hgo
        go_wp2_with fail
        (with_reducible refine (HCL.out _).mono ?_)
        rintro e w6 ⟨rfl, hb6⟩
        have HB6 := Lib.hid ((hk3.out.below hb6).bel)
        clear hb6
        go_wp2
        go_ret
        exact ⟨rfl, HB6.out⟩
end Ph
end Go.Proofs.Ytenolokklkklbaa
