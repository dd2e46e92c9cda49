/- PhaseJobs: what is under way waits for just one thing, and what is over for nothing. -/
import Derived.Test.YtenolokklkklbaaPhK
import Derived.Test.YtenolokklkklbaaPhLaws
import Derived.Deep.RegionHeld3
namespace Go.Proofs.Ytenolokklkklbaa
open Go.RowKit Ph
set_option linter.unusedVariables false
set_option linter.unusedSimpArgs false
set_option linter.unnecessarySimpa false
namespace Ph
set_option maxHeartbeats 40000000 in
set_option maxRecDepth 100000 in
theorem phaseJobs_any (b : Bool) (A : Option Addr) (n c : Nat) (L : List Ac) (w : World) (h : ActsIn w A n c L) :
    Calls Try.prog 5 #[.bool b, .slice A n c] w fun e w' => e = .returned (.bool true) ∧ Below w.heap.size w w' := by
  obtain ⟨hn, hc, hm, hat, _, hA⟩ := h
  unfold maxLen at hm
  have HN := Lib.hid hn
  have HAT : Hid (At w A (als L)) := hat
  clear hn hat hA
  go_enter Try.func5, Try.ntmps5
  go_wp2_with fail
  (with_reducible refine (awake_any _).mono ?_)
  rintro e w1 ⟨rfl, hb1⟩
  have HB1 := Lib.hid hb1
  clear hb1
  go_wp2_with fail
  (with_reducible refine (new_any b _).mono ?_)
  rintro e w2 ⟨rfl, hb2⟩
  have HB2 := Lib.hid (HB1.out.trans (hb2.mono HB1.out.size))
  clear hb2
  unfold stc
  obtain ⟨z, hz⟩ : ∃ z, z = w2.heap.size := ⟨_, rfl⟩
  have HK : Hid (Kid w (w2.alloc (.cells (stc (fresh b)) 27)) z (fresh b)) := ⟨HB2.out.alloc HB2.out.size _, by rw [hz]; exact HB2.out.size, hz ▸ Blk.new w2 _ _⟩
  have HF := Lib.hid (fine_fresh b)
  have HW0 : Hid (want (fresh b).k = 0 ∧ (fresh b).m = 0) := by cases b <;> exact ⟨rfl, rfl⟩
  have HZ := Lib.hid hz
  unfold stc at HK
  go_wp2
  rw [← HZ.out]
  clear hz
  go_loopw [6, 7, 8] (fun j m i wr => ∃ (kk : Nat) (s : St), kk ≤ n ∧ j = .int .i64 (want s.k) ∧ m = .int .i64 s.m ∧ i = .int .i64 kk ∧ Hid (Fine s) ∧ Hid (Kid w wr z s)) (fun _ _ i _ => n - (intOf i).toNat)
  case atStart => exact ⟨0, fresh b, Nat.zero_le _, by rw [HW0.out.1], by rw [HW0.out.2], rfl, HF.out, HK.out⟩
  case round =>
    obtain ⟨kk, s, hk, rfl, rfl, rfl, hf, hkd⟩ := hrel
    obtain ⟨job, hjob⟩ : ∃ job, job = want s.k := ⟨_, rfl⟩
    obtain ⟨mv, hmv⟩ : ∃ mv, mv = s.m := ⟨_, rfl⟩
    rw [← hjob, ← hmv]
    have HJOB := Lib.hid hjob
    have HMV := Lib.hid hmv
    clear hjob hmv
    by_cases hrun : kk < n ∧ kk < 60
    · obtain ⟨hlt, h60⟩ := hrun
      have hkL : kk < L.length := by have := HN.out; omega
      obtain ⟨ab, ao, rfl, hab, ha0⟩ := at_ac HAT.out hkL
      generalize L[kk] = a at ha0
      have hbl := hkd.out.bel
      obtain ⟨g6, g7, g8, g9, g10⟩ := ha0
      have g6 := (hbl.cell (p := ⟨ab, ao + kk * 5, none⟩) hab).trans g6
      have g7 := (hbl.cell (p := ⟨ab, ao + kk * 5 + 1, none⟩) hab).trans g7
      have g8 := (hbl.cell (p := ⟨ab, ao + kk * 5 + 2, none⟩) hab).trans g8
      have g9 := (hbl.cell (p := ⟨ab, ao + kk * 5 + 3, none⟩) hab).trans g9
      have g10 := (hbl.cell (p := ⟨ab, ao + kk * 5 + 4, none⟩) hab).trans g10
      clear hbl hab
      obtain ⟨W8, hW8⟩ : ∃ W, W = wr.alloc (.cells #[.int .i64 a.c, .int .i64 a.d, .int .i64 a.x, .int .i64 a.y, .bool a.o] 30) := ⟨_, rfl⟩
      have hk8 := hkd.out.below (below_alloc wr (.cells #[.int .i64 a.c, .int .i64 a.d, .int .i64 a.x, .int .i64 a.y, .bool a.o] 30))
      have ha8 := Blk.new wr 30 #[.int .i64 a.c, .int .i64 a.d, .int .i64 a.x, .int .i64 a.y, .bool a.o]
      rw [← hW8] at hk8 ha8
      obtain ⟨ag, hag⟩ : ∃ g, g = wr.heap.size := ⟨_, rfl⟩
      rw [← hag] at ha8
      have HAG := Lib.hid hag
      have HW8 := Lib.hid hW8
      have HK8 := Lib.hid hk8
      have HA8 := Lib.hid ha8
      obtain ⟨f0, f1, f2, f3, f4, f5⟩ := six_cells hk8.blk
      have a0 : W8.cell? ⟨ag, 0, none⟩ = some (.int .i64 a.c) := ha8.cell 0 rfl
      have a1 : W8.cell? ⟨ag, 1, none⟩ = some (.int .i64 a.d) := ha8.cell 1 rfl
      have a2 : W8.cell? ⟨ag, 2, none⟩ = some (.int .i64 a.x) := ha8.cell 2 rfl
      have a3 : W8.cell? ⟨ag, 3, none⟩ = some (.int .i64 a.y) := ha8.cell 3 rfl
      have a4 : W8.cell? ⟨ag, 4, none⟩ = some (.bool a.o) := ha8.cell 4 rfl
      clear hW8 hk8 ha8 hag
      go_upto_region 9 with fail
      rw [← HW8.out, ← HAG.out]
      clear g6 g7 g8 g9 g10
      by_cases hc4 : a.c = 4
      · have b4 : (a.c == 4) = true := by simpa using hc4
        have b9 : (a.c == 9) = false := by rw [hc4]; rfl
        by_cases hj1 : job = 1
        · have bn1 : (job != 1) = false := by simp [bne, hj1]
          have bj1 : (job == 1) = true := by simpa using hj1
          have HP4 : Hid (a.c = 4 → want s.k = 1) := fun _ => by rw [← HJOB.out]; exact hj1
          have HP9 : Hid (a.c = 9 → s.m = 1) := fun h => by omega
          have HC4 : Hid (a.c = 4) := hc4
          have HC9 : Hid (a.c ≠ 9) := by show _ ≠ _; omega
          clear hc4 hj1
          have CF := Lib.hid (fun W => do_any s a W)
          have HST0 := Lib.hid (jobs_step s a hf.out HP4.out HP9.out)
          unfold stc acc at CF
          generalize pdo s a = o at *
          go_wp2_with fail
          (with_reducible refine (CF.out _).mono ?_)
          rintro e v10 ⟨hv, rfl, ho, hb⟩
          obtain ⟨A5, c5, rfl, _, _⟩ := own_slice ho
          obtain ⟨⟨k', m', x', y', d', e'⟩, h', j, mj, en, me, go⟩ := o
          unfold ouc
          simp only at *
          obtain ⟨W10, hW10⟩ : ∃ W, W = v10.alloc (.cells #[.int .i64 k', .int .i64 m', .int .i64 x', .int .i64 y', .int .i64 d', .int .i64 e', .slice A5 h'.length c5, .int .i64 j, .int .i64 mj, .bool en, .bool me, .bool go] 34) := ⟨_, rfl⟩
          have hq3 := Blk.new v10 34 #[.int .i64 k', .int .i64 m', .int .i64 x', .int .i64 y', .int .i64 d', .int .i64 e', .slice A5 h'.length c5, .int .i64 j, .int .i64 mj, .bool en, .bool me, .bool go]
          have hk10 := (HK8.out.below hb).below (below_alloc v10 (.cells #[.int .i64 k', .int .i64 m', .int .i64 x', .int .i64 y', .int .i64 d', .int .i64 e', .slice A5 h'.length c5, .int .i64 j, .int .i64 mj, .bool en, .bool me, .bool go] 34))
          have ha10 := (HA8.out.below hb).alloc (.cells #[.int .i64 k', .int .i64 m', .int .i64 x', .int .i64 y', .int .i64 d', .int .i64 e', .slice A5 h'.length c5, .int .i64 j, .int .i64 mj, .bool en, .bool me, .bool go] 34)
          rw [← hW10] at hq3 hk10 ha10
          have HW10 := Lib.hid hW10
          obtain ⟨g, hg⟩ : ∃ g, g = v10.heap.size := ⟨_, rfl⟩
          rw [← hg] at hq3
          have HG := Lib.hid hg
          have HK10 := Lib.hid hk10
          have HSTEP : Hid (JobsStep a.c (want s.k) s.m ⟨⟨k', m', x', y', d', e'⟩, h', j, mj, en, me, go⟩) := HST0.out
          have hzv : z < v10.heap.size := (HK8.out.below hb).blk.lt
          have gne : z ≠ g := by omega
          have gne' : g ≠ z := by omega
          obtain ⟨gc0, gc1, gc2, gc3, gc4, gc5, gc6, gc7, gc8, gc9, gc10, gc11⟩ := blk12 hq3
          have ac0 : W10.cell? ⟨ag, 0, none⟩ = some (.int .i64 a.c) := ha10.cell 0 rfl
          clear hW10 hq3 hk10 ha10 hb ho CF HST0 hg hzv f0 f1 f2 f3 f4 f5 a0 a1 a2 a3 a4
          go_upto_region 11 with fail
          rw [← HW10.out, ← HG.out]
          obtain ⟨J2, hJ2⟩ : ∃ J2 : Int, J2 = if en = true then 0 else 0 := ⟨_, rfl⟩
          obtain ⟨M2, hM2⟩ : ∃ M2 : Int, M2 = if me = true then 0 else s.m := ⟨_, rfl⟩
          have HJ2 := Lib.hid hJ2
          have HM2 := Lib.hid hM2
          clear hJ2 hM2
          go_upto_if 56 with fail
          go_cut [6] (fun p wx => p = .int .i64 J2 ∧ W10 = wx)
          case first =>
            cases en
            · go_wp2_with fail
              go_meet
              exact ⟨by rw [HJ2.out]; simp [HJOB.out], rfl⟩
            · go_wp2_with fail
              go_meet
              exact ⟨by rw [HJ2.out]; simp [HJOB.out], rfl⟩
          case' rest =>
            obtain ⟨rfl, rfl⟩ := hcut
          go_upto_if 58 with fail
          go_cut [7] (fun p wx => p = .int .i64 M2 ∧ W10 = wx)
          case first =>
            cases me
            · go_wp2_with fail
              go_meet
              exact ⟨by rw [HM2.out]; simp [HMV.out], rfl⟩
            · go_wp2_with fail
              go_meet
              exact ⟨by rw [HM2.out]; simp [HMV.out], rfl⟩
          case' rest =>
            obtain ⟨rfl, rfl⟩ := hcut
          obtain ⟨J3, hJ3⟩ : ∃ J3 : Int, J3 = if j ≠ 0 then j else J2 := ⟨_, rfl⟩
          obtain ⟨M3, hM3⟩ : ∃ M3 : Int, M3 = if mj ≠ 0 then mj else M2 := ⟨_, rfl⟩
          have HJ3 := Lib.hid hJ3
          have HM3 := Lib.hid hM3
          clear hJ3 hM3
          have HF2 : Hid ((j ≠ 0 → J2 = 0) ∧ (mj ≠ 0 → M2 = 0)) := by
            have h9 := HSTEP.out
            refine ⟨fun h => ?_, fun h => ?_⟩
            · have := h9.free h
              rw [HJ2.out]
              simpa [job2, HC4.out] using this
            · have := h9.freem h
              rw [HM2.out]
              simpa [mv2, HC9.out] using this
          have HE3 : Hid ((go = true → J3 = 0 ∧ M3 = 0) ∧ (go = false → J3 = want k' ∧ M3 = m')) := by
            have h9 := HSTEP.out
            refine ⟨fun h => ?_, fun h => ?_⟩
            · have := h9.gone h
              rw [HJ3.out, HM3.out, HJ2.out, HM2.out]
              simpa [job2, mv2, HC4.out, HC9.out] using this
            · have := h9.stays h
              rw [HJ3.out, HM3.out, HJ2.out, HM2.out]
              simpa [job2, mv2, HC4.out, HC9.out] using this
          go_upto_if 61 with fail
          go_cut [6] (fun p wx => p = .int .i64 J3 ∧ W10 = wx)
          case first =>
            by_cases hj : j = 0
            · have hj1 : (j == 0) = true := by simpa using hj
              have HJ0 := Lib.hid hj
              clear hj
              go_wp2_with fail
              go_meet
              exact ⟨by rw [HJ3.out, if_neg (by simp [HJ0.out])], rfl⟩
            · have hj1 : (j == 0) = false := by simpa using hj
              have hj2 : (J2 == 0) = true := by simpa using HF2.out.1 hj
              have HJ0 := Lib.hid hj
              clear hj
              go_wp2_with fail
              go_meet
              exact ⟨by rw [HJ3.out, if_pos HJ0.out], rfl⟩
          case' rest =>
            obtain ⟨rfl, rfl⟩ := hcut
          go_upto_if 68 with fail
          go_cut [7] (fun p wx => p = .int .i64 M3 ∧ W10 = wx)
          case first =>
            by_cases hj : mj = 0
            · have hj1 : (mj == 0) = true := by simpa using hj
              have HJ0 := Lib.hid hj
              clear hj
              go_wp2_with fail
              go_meet
              exact ⟨by rw [HM3.out, if_neg (by simp [HJ0.out])], rfl⟩
            · have hj1 : (mj == 0) = false := by simpa using hj
              have hj2 : (M2 == 0) = true := by simpa using HF2.out.2 hj
              have HJ0 := Lib.hid hj
              clear hj
              go_wp2_with fail
              go_meet
              exact ⟨by rw [HM3.out, if_pos HJ0.out], rfl⟩
          case' rest =>
            obtain ⟨rfl, rfl⟩ := hcut
          obtain ⟨zc0, zc1, zc2, zc3, zc4, zc5⟩ := six_cells HK10.out.blk
          have zz := HK10.out.blk.frozen
          have zz0 := zz 0; have zz1 := zz 1; have zz2 := zz 2; have zz3 := zz 3; have zz4 := zz 4; have zz5 := zz 5
          clear zz
          have hk9 := HK10.out.put ⟨k', m', x', y', d', e'⟩
          have gd := far6 (z := z) (x0 := .int .i64 k') (x1 := .int .i64 m') (x2 := .int .i64 x') (x3 := .int .i64 y') (x4 := .int .i64 d') (x5 := .int .i64 e') gc11 gne'
          obtain ⟨w9, hw9⟩ : ∃ W, W = ((((((W10.setCell ⟨z, 0, none⟩ (.int .i64 k')).setCell ⟨z, 1, none⟩ (.int .i64 m')).setCell ⟨z, 2, none⟩ (.int .i64 x')).setCell ⟨z, 3, none⟩ (.int .i64 y')).setCell ⟨z, 4, none⟩ (.int .i64 d')).setCell ⟨z, 5, none⟩ (.int .i64 e')) := ⟨_, rfl⟩
          rw [← hw9] at hk9 gd
          have HW9 := Lib.hid hw9
          have HK9 := Lib.hid hk9
          clear hk9 hw9
          go_upto_region 28 with fail
          rw [← HW9.out]
          clear zc0 zc1 zc2 zc3 zc4 zc5 zz0 zz1 zz2 zz3 zz4 zz5 gc0 gc1 gc2 gc3 gc4 gc5 gc6 gc7 gc8 gc9 gc10 gc11
          cases go
          · obtain ⟨hJ, hM⟩ := HE3.out.2 rfl
            have HJ := Lib.hid hJ
            have HM := Lib.hid hM
            clear HE3 HF2 hJ hM
            obtain ⟨zc0, zc1, zc2, zc3, zc4, zc5⟩ := six_cells HK9.out.blk
            have hm : (M3 == m') = true := by simpa using HM.out
            have hmn : (M3 != m') = false := by simp [bne, hm]
            have HFIN : Hid (Fine ⟨k', m', x', y', d', e'⟩) := HSTEP.out.fine
            have HEND : ∃ q : St, Hid (q = ⟨k', m', x', y', d', e'⟩) ∧ Hid (Value.int .i64 J3 = .int .i64 (want q.k)) ∧ Hid (Value.int .i64 M3 = .int .i64 q.m) ∧ Hid (Fine q) ∧ Hid (Kid w w9 z q) :=
              ⟨_, rfl, (by show _ = _; rw [HJ.out]), (by show _ = _; rw [HM.out]), HFIN.out, HK9.out⟩
            by_cases e2 : k' = 2
            · have b2 : (k' == 2) = true := by simpa using e2
              have bj : (J3 == 1) = true := by rw [HJ.out, e2]; rfl
              have bn : (J3 != 1) = false := by simp [bne, bj]
              clear e2
              go_wp2
              go_roundw
              case rel => obtain ⟨q, _, h1, h2, h3, h4⟩ := HEND; exact ⟨kk + 1, q, by omega, h1.out, h2.out, by go_num, h3.out, h4.out⟩
              case measure => simp [intOf]; omega
            · have b2 : (k' == 2) = false := by simpa using e2
              by_cases e5 : k' = 5
              · have b5 : (k' == 5) = true := by simpa using e5
                have bj : (J3 == 1) = true := by rw [HJ.out, e5]; rfl
                have bn : (J3 != 1) = false := by simp [bne, bj]
                clear e2 e5
                go_wp2
                go_roundw
                case rel => obtain ⟨q, _, h1, h2, h3, h4⟩ := HEND; exact ⟨kk + 1, q, by omega, h1.out, h2.out, by go_num, h3.out, h4.out⟩
                case measure => simp [intOf]; omega
              · have b5 : (k' == 5) = false := by simpa using e5
                by_cases e3 : k' = 3
                · have b3 : (k' == 3) = true := by simpa using e3
                  have bj : (J3 == 2) = true := by rw [HJ.out, e3]; rfl
                  have bn : (J3 != 2) = false := by simp [bne, bj]
                  clear e2 e5 e3
                  go_wp2
                  go_roundw
                  case rel => obtain ⟨q, _, h1, h2, h3, h4⟩ := HEND; exact ⟨kk + 1, q, by omega, h1.out, h2.out, by go_num, h3.out, h4.out⟩
                  case measure => simp [intOf]; omega
                · have b3 : (k' == 3) = false := by simpa using e3
                  by_cases e6 : k' = 6
                  · have b6 : (k' == 6) = true := by simpa using e6
                    have bj : (J3 == 2) = true := by rw [HJ.out, e6]; rfl
                    have bn : (J3 != 2) = false := by simp [bne, bj]
                    clear e2 e5 e3 e6
                    go_wp2
                    go_roundw
                    case rel => obtain ⟨q, _, h1, h2, h3, h4⟩ := HEND; exact ⟨kk + 1, q, by omega, h1.out, h2.out, by go_num, h3.out, h4.out⟩
                    case measure => simp [intOf]; omega
                  · have b6 : (k' == 6) = false := by simpa using e6
                    have bj : (J3 == 0) = true := by rw [HJ.out]; unfold want; rw [if_neg (by omega), if_neg (by omega)]; rfl
                    have bn : (J3 != 0) = false := by simp [bne, bj]
                    clear e2 e5 e3 e6
                    go_wp2
                    go_roundw
                    case rel => obtain ⟨q, _, h1, h2, h3, h4⟩ := HEND; exact ⟨kk + 1, q, by omega, h1.out, h2.out, by go_num, h3.out, h4.out⟩
                    case measure => simp [intOf]; omega
          · obtain ⟨hJ, hM⟩ := HE3.out.1 rfl
            have bj : (J3 == 0) = true := by simpa using hJ
            have bm : (M3 == 0) = true := by simpa using hM
            clear hJ hM HE3 HF2
            go_wp2
            go_ret
            exact ⟨rfl, HK9.out.bel⟩
        · have bn1 : (job != 1) = true := by simp [bne, hj1]
          have bj1 : (job == 1) = false := by simpa using hj1
          clear hc4 hj1
          go_wp2
          go_roundw
          case rel => exact ⟨kk + 1, s, by omega, by rw [HJOB.out], by rw [HMV.out], by go_num, hf.out, HK8.out⟩
          case measure => simp [intOf]; omega
      · have b4 : (a.c == 4) = false := by simpa using hc4
        by_cases hc9 : a.c = 9
        · have b9 : (a.c == 9) = true := by simpa using hc9
          by_cases hm1 : mv = 1
          · have bn1 : (mv != 1) = false := by simp [bne, hm1]
            have bm1 : (mv == 1) = true := by simpa using hm1
            have HP4 : Hid (a.c = 4 → want s.k = 1) := fun h => absurd h hc4
            have HP9 : Hid (a.c = 9 → s.m = 1) := fun _ => by rw [← HMV.out]; exact hm1
            have HC4 : Hid (a.c ≠ 4) := hc4
            have HC9 : Hid (a.c = 9) := hc9
            clear hc4 hc9 hm1
            have CF := Lib.hid (fun W => do_any s a W)
            have HST0 := Lib.hid (jobs_step s a hf.out HP4.out HP9.out)
            unfold stc acc at CF
            generalize pdo s a = o at *
            go_wp2_with fail
            (with_reducible refine (CF.out _).mono ?_)
            rintro e v10 ⟨hv, rfl, ho, hb⟩
            obtain ⟨A5, c5, rfl, _, _⟩ := own_slice ho
            obtain ⟨⟨k', m', x', y', d', e'⟩, h', j, mj, en, me, go⟩ := o
            unfold ouc
            simp only at *
            obtain ⟨W10, hW10⟩ : ∃ W, W = v10.alloc (.cells #[.int .i64 k', .int .i64 m', .int .i64 x', .int .i64 y', .int .i64 d', .int .i64 e', .slice A5 h'.length c5, .int .i64 j, .int .i64 mj, .bool en, .bool me, .bool go] 34) := ⟨_, rfl⟩
            have hq3 := Blk.new v10 34 #[.int .i64 k', .int .i64 m', .int .i64 x', .int .i64 y', .int .i64 d', .int .i64 e', .slice A5 h'.length c5, .int .i64 j, .int .i64 mj, .bool en, .bool me, .bool go]
            have hk10 := (HK8.out.below hb).below (below_alloc v10 (.cells #[.int .i64 k', .int .i64 m', .int .i64 x', .int .i64 y', .int .i64 d', .int .i64 e', .slice A5 h'.length c5, .int .i64 j, .int .i64 mj, .bool en, .bool me, .bool go] 34))
            have ha10 := (HA8.out.below hb).alloc (.cells #[.int .i64 k', .int .i64 m', .int .i64 x', .int .i64 y', .int .i64 d', .int .i64 e', .slice A5 h'.length c5, .int .i64 j, .int .i64 mj, .bool en, .bool me, .bool go] 34)
            rw [← hW10] at hq3 hk10 ha10
            have HW10 := Lib.hid hW10
            obtain ⟨g, hg⟩ : ∃ g, g = v10.heap.size := ⟨_, rfl⟩
            rw [← hg] at hq3
            have HG := Lib.hid hg
            have HK10 := Lib.hid hk10
            have HSTEP : Hid (JobsStep a.c (want s.k) s.m ⟨⟨k', m', x', y', d', e'⟩, h', j, mj, en, me, go⟩) := HST0.out
            have hzv : z < v10.heap.size := (HK8.out.below hb).blk.lt
            have gne : z ≠ g := by omega
            have gne' : g ≠ z := by omega
            obtain ⟨gc0, gc1, gc2, gc3, gc4, gc5, gc6, gc7, gc8, gc9, gc10, gc11⟩ := blk12 hq3
            have ac0 : W10.cell? ⟨ag, 0, none⟩ = some (.int .i64 a.c) := ha10.cell 0 rfl
            clear hW10 hq3 hk10 ha10 hb ho CF HST0 hg hzv f0 f1 f2 f3 f4 f5 a0 a1 a2 a3 a4
            go_upto_region 11 with fail
            rw [← HW10.out, ← HG.out]
            obtain ⟨J2, hJ2⟩ : ∃ J2 : Int, J2 = if en = true then 0 else want s.k := ⟨_, rfl⟩
            obtain ⟨M2, hM2⟩ : ∃ M2 : Int, M2 = if me = true then 0 else 0 := ⟨_, rfl⟩
            have HJ2 := Lib.hid hJ2
            have HM2 := Lib.hid hM2
            clear hJ2 hM2
            go_upto_if 56 with fail
            go_cut [6] (fun p wx => p = .int .i64 J2 ∧ W10 = wx)
            case first =>
              cases en
              · go_wp2_with fail
                go_meet
                exact ⟨by rw [HJ2.out]; simp [HJOB.out], rfl⟩
              · go_wp2_with fail
                go_meet
                exact ⟨by rw [HJ2.out]; simp [HJOB.out], rfl⟩
            case' rest =>
              obtain ⟨rfl, rfl⟩ := hcut
            go_upto_if 58 with fail
            go_cut [7] (fun p wx => p = .int .i64 M2 ∧ W10 = wx)
            case first =>
              cases me
              · go_wp2_with fail
                go_meet
                exact ⟨by rw [HM2.out]; simp [HMV.out], rfl⟩
              · go_wp2_with fail
                go_meet
                exact ⟨by rw [HM2.out]; simp [HMV.out], rfl⟩
            case' rest =>
              obtain ⟨rfl, rfl⟩ := hcut
            obtain ⟨J3, hJ3⟩ : ∃ J3 : Int, J3 = if j ≠ 0 then j else J2 := ⟨_, rfl⟩
            obtain ⟨M3, hM3⟩ : ∃ M3 : Int, M3 = if mj ≠ 0 then mj else M2 := ⟨_, rfl⟩
            have HJ3 := Lib.hid hJ3
            have HM3 := Lib.hid hM3
            clear hJ3 hM3
            have HF2 : Hid ((j ≠ 0 → J2 = 0) ∧ (mj ≠ 0 → M2 = 0)) := by
              have h9 := HSTEP.out
              refine ⟨fun h => ?_, fun h => ?_⟩
              · have := h9.free h
                rw [HJ2.out]
                simpa [job2, HC4.out] using this
              · have := h9.freem h
                rw [HM2.out]
                simpa [mv2, HC9.out] using this
            have HE3 : Hid ((go = true → J3 = 0 ∧ M3 = 0) ∧ (go = false → J3 = want k' ∧ M3 = m')) := by
              have h9 := HSTEP.out
              refine ⟨fun h => ?_, fun h => ?_⟩
              · have := h9.gone h
                rw [HJ3.out, HM3.out, HJ2.out, HM2.out]
                simpa [job2, mv2, HC4.out, HC9.out] using this
              · have := h9.stays h
                rw [HJ3.out, HM3.out, HJ2.out, HM2.out]
                simpa [job2, mv2, HC4.out, HC9.out] using this
            go_upto_if 61 with fail
            go_cut [6] (fun p wx => p = .int .i64 J3 ∧ W10 = wx)
            case first =>
              by_cases hj : j = 0
              · have hj1 : (j == 0) = true := by simpa using hj
                have HJ0 := Lib.hid hj
                clear hj
                go_wp2_with fail
                go_meet
                exact ⟨by rw [HJ3.out, if_neg (by simp [HJ0.out])], rfl⟩
              · have hj1 : (j == 0) = false := by simpa using hj
                have hj2 : (J2 == 0) = true := by simpa using HF2.out.1 hj
                have HJ0 := Lib.hid hj
                clear hj
                go_wp2_with fail
                go_meet
                exact ⟨by rw [HJ3.out, if_pos HJ0.out], rfl⟩
            case' rest =>
              obtain ⟨rfl, rfl⟩ := hcut
            go_upto_if 68 with fail
            go_cut [7] (fun p wx => p = .int .i64 M3 ∧ W10 = wx)
            case first =>
              by_cases hj : mj = 0
              · have hj1 : (mj == 0) = true := by simpa using hj
                have HJ0 := Lib.hid hj
                clear hj
                go_wp2_with fail
                go_meet
                exact ⟨by rw [HM3.out, if_neg (by simp [HJ0.out])], rfl⟩
              · have hj1 : (mj == 0) = false := by simpa using hj
                have hj2 : (M2 == 0) = true := by simpa using HF2.out.2 hj
                have HJ0 := Lib.hid hj
                clear hj
                go_wp2_with fail
                go_meet
                exact ⟨by rw [HM3.out, if_pos HJ0.out], rfl⟩
            case' rest =>
              obtain ⟨rfl, rfl⟩ := hcut
            obtain ⟨zc0, zc1, zc2, zc3, zc4, zc5⟩ := six_cells HK10.out.blk
            have zz := HK10.out.blk.frozen
            have zz0 := zz 0; have zz1 := zz 1; have zz2 := zz 2; have zz3 := zz 3; have zz4 := zz 4; have zz5 := zz 5
            clear zz
            have hk9 := HK10.out.put ⟨k', m', x', y', d', e'⟩
            have gd := far6 (z := z) (x0 := .int .i64 k') (x1 := .int .i64 m') (x2 := .int .i64 x') (x3 := .int .i64 y') (x4 := .int .i64 d') (x5 := .int .i64 e') gc11 gne'
            obtain ⟨w9, hw9⟩ : ∃ W, W = ((((((W10.setCell ⟨z, 0, none⟩ (.int .i64 k')).setCell ⟨z, 1, none⟩ (.int .i64 m')).setCell ⟨z, 2, none⟩ (.int .i64 x')).setCell ⟨z, 3, none⟩ (.int .i64 y')).setCell ⟨z, 4, none⟩ (.int .i64 d')).setCell ⟨z, 5, none⟩ (.int .i64 e')) := ⟨_, rfl⟩
            rw [← hw9] at hk9 gd
            have HW9 := Lib.hid hw9
            have HK9 := Lib.hid hk9
            clear hk9 hw9
            go_upto_region 28 with fail
            rw [← HW9.out]
            clear zc0 zc1 zc2 zc3 zc4 zc5 zz0 zz1 zz2 zz3 zz4 zz5 gc0 gc1 gc2 gc3 gc4 gc5 gc6 gc7 gc8 gc9 gc10 gc11
            cases go
            · obtain ⟨hJ, hM⟩ := HE3.out.2 rfl
              have HJ := Lib.hid hJ
              have HM := Lib.hid hM
              clear HE3 HF2 hJ hM
              obtain ⟨zc0, zc1, zc2, zc3, zc4, zc5⟩ := six_cells HK9.out.blk
              have hm : (M3 == m') = true := by simpa using HM.out
              have hmn : (M3 != m') = false := by simp [bne, hm]
              have HFIN : Hid (Fine ⟨k', m', x', y', d', e'⟩) := HSTEP.out.fine
              have HEND : ∃ q : St, Hid (q = ⟨k', m', x', y', d', e'⟩) ∧ Hid (Value.int .i64 J3 = .int .i64 (want q.k)) ∧ Hid (Value.int .i64 M3 = .int .i64 q.m) ∧ Hid (Fine q) ∧ Hid (Kid w w9 z q) :=
                ⟨_, rfl, (by show _ = _; rw [HJ.out]), (by show _ = _; rw [HM.out]), HFIN.out, HK9.out⟩
              by_cases e2 : k' = 2
              · have b2 : (k' == 2) = true := by simpa using e2
                have bj : (J3 == 1) = true := by rw [HJ.out, e2]; rfl
                have bn : (J3 != 1) = false := by simp [bne, bj]
                clear e2
                go_wp2
                go_roundw
                case rel => obtain ⟨q, _, h1, h2, h3, h4⟩ := HEND; exact ⟨kk + 1, q, by omega, h1.out, h2.out, by go_num, h3.out, h4.out⟩
                case measure => simp [intOf]; omega
              · have b2 : (k' == 2) = false := by simpa using e2
                by_cases e5 : k' = 5
                · have b5 : (k' == 5) = true := by simpa using e5
                  have bj : (J3 == 1) = true := by rw [HJ.out, e5]; rfl
                  have bn : (J3 != 1) = false := by simp [bne, bj]
                  clear e2 e5
                  go_wp2
                  go_roundw
                  case rel => obtain ⟨q, _, h1, h2, h3, h4⟩ := HEND; exact ⟨kk + 1, q, by omega, h1.out, h2.out, by go_num, h3.out, h4.out⟩
                  case measure => simp [intOf]; omega
                · have b5 : (k' == 5) = false := by simpa using e5
                  by_cases e3 : k' = 3
                  · have b3 : (k' == 3) = true := by simpa using e3
                    have bj : (J3 == 2) = true := by rw [HJ.out, e3]; rfl
                    have bn : (J3 != 2) = false := by simp [bne, bj]
                    clear e2 e5 e3
                    go_wp2
                    go_roundw
                    case rel => obtain ⟨q, _, h1, h2, h3, h4⟩ := HEND; exact ⟨kk + 1, q, by omega, h1.out, h2.out, by go_num, h3.out, h4.out⟩
                    case measure => simp [intOf]; omega
                  · have b3 : (k' == 3) = false := by simpa using e3
                    by_cases e6 : k' = 6
                    · have b6 : (k' == 6) = true := by simpa using e6
                      have bj : (J3 == 2) = true := by rw [HJ.out, e6]; rfl
                      have bn : (J3 != 2) = false := by simp [bne, bj]
                      clear e2 e5 e3 e6
                      go_wp2
                      go_roundw
                      case rel => obtain ⟨q, _, h1, h2, h3, h4⟩ := HEND; exact ⟨kk + 1, q, by omega, h1.out, h2.out, by go_num, h3.out, h4.out⟩
                      case measure => simp [intOf]; omega
                    · have b6 : (k' == 6) = false := by simpa using e6
                      have bj : (J3 == 0) = true := by rw [HJ.out]; unfold want; rw [if_neg (by omega), if_neg (by omega)]; rfl
                      have bn : (J3 != 0) = false := by simp [bne, bj]
                      clear e2 e5 e3 e6
                      go_wp2
                      go_roundw
                      case rel => obtain ⟨q, _, h1, h2, h3, h4⟩ := HEND; exact ⟨kk + 1, q, by omega, h1.out, h2.out, by go_num, h3.out, h4.out⟩
                      case measure => simp [intOf]; omega
            · obtain ⟨hJ, hM⟩ := HE3.out.1 rfl
              have bj : (J3 == 0) = true := by simpa using hJ
              have bm : (M3 == 0) = true := by simpa using hM
              clear hJ hM HE3 HF2
              go_wp2
              go_ret
              exact ⟨rfl, HK9.out.bel⟩
          · have bn1 : (mv != 1) = true := by simp [bne, hm1]
            have bm1 : (mv == 1) = false := by simpa using hm1
            clear hc4 hc9 hm1
            go_wp2
            go_roundw
            case rel => exact ⟨kk + 1, s, by omega, by rw [HJOB.out], by rw [HMV.out], by go_num, hf.out, HK8.out⟩
            case measure => simp [intOf]; omega
        · have b9 : (a.c == 9) = false := by simpa using hc9
          have HP4 : Hid (a.c = 4 → want s.k = 1) := fun h => absurd h hc4
          have HP9 : Hid (a.c = 9 → s.m = 1) := fun h => absurd h hc9
          have HC4 : Hid (a.c ≠ 4) := hc4
          have HC9 : Hid (a.c ≠ 9) := hc9
          clear hc4 hc9
          have CF := Lib.hid (fun W => do_any s a W)
          have HST0 := Lib.hid (jobs_step s a hf.out HP4.out HP9.out)
          unfold stc acc at CF
          generalize pdo s a = o at *
          go_wp2_with fail
          (with_reducible refine (CF.out _).mono ?_)
          rintro e v10 ⟨hv, rfl, ho, hb⟩
          obtain ⟨A5, c5, rfl, _, _⟩ := own_slice ho
          obtain ⟨⟨k', m', x', y', d', e'⟩, h', j, mj, en, me, go⟩ := o
          unfold ouc
          simp only at *
          obtain ⟨W10, hW10⟩ : ∃ W, W = v10.alloc (.cells #[.int .i64 k', .int .i64 m', .int .i64 x', .int .i64 y', .int .i64 d', .int .i64 e', .slice A5 h'.length c5, .int .i64 j, .int .i64 mj, .bool en, .bool me, .bool go] 34) := ⟨_, rfl⟩
          have hq3 := Blk.new v10 34 #[.int .i64 k', .int .i64 m', .int .i64 x', .int .i64 y', .int .i64 d', .int .i64 e', .slice A5 h'.length c5, .int .i64 j, .int .i64 mj, .bool en, .bool me, .bool go]
          have hk10 := (HK8.out.below hb).below (below_alloc v10 (.cells #[.int .i64 k', .int .i64 m', .int .i64 x', .int .i64 y', .int .i64 d', .int .i64 e', .slice A5 h'.length c5, .int .i64 j, .int .i64 mj, .bool en, .bool me, .bool go] 34))
          have ha10 := (HA8.out.below hb).alloc (.cells #[.int .i64 k', .int .i64 m', .int .i64 x', .int .i64 y', .int .i64 d', .int .i64 e', .slice A5 h'.length c5, .int .i64 j, .int .i64 mj, .bool en, .bool me, .bool go] 34)
          rw [← hW10] at hq3 hk10 ha10
          have HW10 := Lib.hid hW10
          obtain ⟨g, hg⟩ : ∃ g, g = v10.heap.size := ⟨_, rfl⟩
          rw [← hg] at hq3
          have HG := Lib.hid hg
          have HK10 := Lib.hid hk10
          have HSTEP : Hid (JobsStep a.c (want s.k) s.m ⟨⟨k', m', x', y', d', e'⟩, h', j, mj, en, me, go⟩) := HST0.out
          have hzv : z < v10.heap.size := (HK8.out.below hb).blk.lt
          have gne : z ≠ g := by omega
          have gne' : g ≠ z := by omega
          obtain ⟨gc0, gc1, gc2, gc3, gc4, gc5, gc6, gc7, gc8, gc9, gc10, gc11⟩ := blk12 hq3
          have ac0 : W10.cell? ⟨ag, 0, none⟩ = some (.int .i64 a.c) := ha10.cell 0 rfl
          clear hW10 hq3 hk10 ha10 hb ho CF HST0 hg hzv f0 f1 f2 f3 f4 f5 a0 a1 a2 a3 a4
          go_upto_region 11 with fail
          rw [← HW10.out, ← HG.out]
          obtain ⟨J2, hJ2⟩ : ∃ J2 : Int, J2 = if en = true then 0 else want s.k := ⟨_, rfl⟩
          obtain ⟨M2, hM2⟩ : ∃ M2 : Int, M2 = if me = true then 0 else s.m := ⟨_, rfl⟩
          have HJ2 := Lib.hid hJ2
          have HM2 := Lib.hid hM2
          clear hJ2 hM2
          go_upto_if 56 with fail
          go_cut [6] (fun p wx => p = .int .i64 J2 ∧ W10 = wx)
          case first =>
            cases en
            · go_wp2_with fail
              go_meet
              exact ⟨by rw [HJ2.out]; simp [HJOB.out], rfl⟩
            · go_wp2_with fail
              go_meet
              exact ⟨by rw [HJ2.out]; simp [HJOB.out], rfl⟩
          case' rest =>
            obtain ⟨rfl, rfl⟩ := hcut
          go_upto_if 58 with fail
          go_cut [7] (fun p wx => p = .int .i64 M2 ∧ W10 = wx)
          case first =>
            cases me
            · go_wp2_with fail
              go_meet
              exact ⟨by rw [HM2.out]; simp [HMV.out], rfl⟩
            · go_wp2_with fail
              go_meet
              exact ⟨by rw [HM2.out]; simp [HMV.out], rfl⟩
          case' rest =>
            obtain ⟨rfl, rfl⟩ := hcut
          obtain ⟨J3, hJ3⟩ : ∃ J3 : Int, J3 = if j ≠ 0 then j else J2 := ⟨_, rfl⟩
          obtain ⟨M3, hM3⟩ : ∃ M3 : Int, M3 = if mj ≠ 0 then mj else M2 := ⟨_, rfl⟩
          have HJ3 := Lib.hid hJ3
          have HM3 := Lib.hid hM3
          clear hJ3 hM3
          have HF2 : Hid ((j ≠ 0 → J2 = 0) ∧ (mj ≠ 0 → M2 = 0)) := by
            have h9 := HSTEP.out
            refine ⟨fun h => ?_, fun h => ?_⟩
            · have := h9.free h
              rw [HJ2.out]
              simpa [job2, HC4.out] using this
            · have := h9.freem h
              rw [HM2.out]
              simpa [mv2, HC9.out] using this
          have HE3 : Hid ((go = true → J3 = 0 ∧ M3 = 0) ∧ (go = false → J3 = want k' ∧ M3 = m')) := by
            have h9 := HSTEP.out
            refine ⟨fun h => ?_, fun h => ?_⟩
            · have := h9.gone h
              rw [HJ3.out, HM3.out, HJ2.out, HM2.out]
              simpa [job2, mv2, HC4.out, HC9.out] using this
            · have := h9.stays h
              rw [HJ3.out, HM3.out, HJ2.out, HM2.out]
              simpa [job2, mv2, HC4.out, HC9.out] using this
          go_upto_if 61 with fail
          go_cut [6] (fun p wx => p = .int .i64 J3 ∧ W10 = wx)
          case first =>
            by_cases hj : j = 0
            · have hj1 : (j == 0) = true := by simpa using hj
              have HJ0 := Lib.hid hj
              clear hj
              go_wp2_with fail
              go_meet
              exact ⟨by rw [HJ3.out, if_neg (by simp [HJ0.out])], rfl⟩
            · have hj1 : (j == 0) = false := by simpa using hj
              have hj2 : (J2 == 0) = true := by simpa using HF2.out.1 hj
              have HJ0 := Lib.hid hj
              clear hj
              go_wp2_with fail
              go_meet
              exact ⟨by rw [HJ3.out, if_pos HJ0.out], rfl⟩
          case' rest =>
            obtain ⟨rfl, rfl⟩ := hcut
          go_upto_if 68 with fail
          go_cut [7] (fun p wx => p = .int .i64 M3 ∧ W10 = wx)
          case first =>
            by_cases hj : mj = 0
            · have hj1 : (mj == 0) = true := by simpa using hj
              have HJ0 := Lib.hid hj
              clear hj
              go_wp2_with fail
              go_meet
              exact ⟨by rw [HM3.out, if_neg (by simp [HJ0.out])], rfl⟩
            · have hj1 : (mj == 0) = false := by simpa using hj
              have hj2 : (M2 == 0) = true := by simpa using HF2.out.2 hj
              have HJ0 := Lib.hid hj
              clear hj
              go_wp2_with fail
              go_meet
              exact ⟨by rw [HM3.out, if_pos HJ0.out], rfl⟩
          case' rest =>
            obtain ⟨rfl, rfl⟩ := hcut
          obtain ⟨zc0, zc1, zc2, zc3, zc4, zc5⟩ := six_cells HK10.out.blk
          have zz := HK10.out.blk.frozen
          have zz0 := zz 0; have zz1 := zz 1; have zz2 := zz 2; have zz3 := zz 3; have zz4 := zz 4; have zz5 := zz 5
          clear zz
          have hk9 := HK10.out.put ⟨k', m', x', y', d', e'⟩
          have gd := far6 (z := z) (x0 := .int .i64 k') (x1 := .int .i64 m') (x2 := .int .i64 x') (x3 := .int .i64 y') (x4 := .int .i64 d') (x5 := .int .i64 e') gc11 gne'
          obtain ⟨w9, hw9⟩ : ∃ W, W = ((((((W10.setCell ⟨z, 0, none⟩ (.int .i64 k')).setCell ⟨z, 1, none⟩ (.int .i64 m')).setCell ⟨z, 2, none⟩ (.int .i64 x')).setCell ⟨z, 3, none⟩ (.int .i64 y')).setCell ⟨z, 4, none⟩ (.int .i64 d')).setCell ⟨z, 5, none⟩ (.int .i64 e')) := ⟨_, rfl⟩
          rw [← hw9] at hk9 gd
          have HW9 := Lib.hid hw9
          have HK9 := Lib.hid hk9
          clear hk9 hw9
          go_upto_region 28 with fail
          rw [← HW9.out]
          clear zc0 zc1 zc2 zc3 zc4 zc5 zz0 zz1 zz2 zz3 zz4 zz5 gc0 gc1 gc2 gc3 gc4 gc5 gc6 gc7 gc8 gc9 gc10 gc11
          cases go
          · obtain ⟨hJ, hM⟩ := HE3.out.2 rfl
            have HJ := Lib.hid hJ
            have HM := Lib.hid hM
            clear HE3 HF2 hJ hM
            obtain ⟨zc0, zc1, zc2, zc3, zc4, zc5⟩ := six_cells HK9.out.blk
            have hm : (M3 == m') = true := by simpa using HM.out
            have hmn : (M3 != m') = false := by simp [bne, hm]
            have HFIN : Hid (Fine ⟨k', m', x', y', d', e'⟩) := HSTEP.out.fine
            have HEND : ∃ q : St, Hid (q = ⟨k', m', x', y', d', e'⟩) ∧ Hid (Value.int .i64 J3 = .int .i64 (want q.k)) ∧ Hid (Value.int .i64 M3 = .int .i64 q.m) ∧ Hid (Fine q) ∧ Hid (Kid w w9 z q) :=
              ⟨_, rfl, (by show _ = _; rw [HJ.out]), (by show _ = _; rw [HM.out]), HFIN.out, HK9.out⟩
            by_cases e2 : k' = 2
            · have b2 : (k' == 2) = true := by simpa using e2
              have bj : (J3 == 1) = true := by rw [HJ.out, e2]; rfl
              have bn : (J3 != 1) = false := by simp [bne, bj]
              clear e2
              go_wp2
              go_roundw
              case rel => obtain ⟨q, _, h1, h2, h3, h4⟩ := HEND; exact ⟨kk + 1, q, by omega, h1.out, h2.out, by go_num, h3.out, h4.out⟩
              case measure => simp [intOf]; omega
            · have b2 : (k' == 2) = false := by simpa using e2
              by_cases e5 : k' = 5
              · have b5 : (k' == 5) = true := by simpa using e5
                have bj : (J3 == 1) = true := by rw [HJ.out, e5]; rfl
                have bn : (J3 != 1) = false := by simp [bne, bj]
                clear e2 e5
                go_wp2
                go_roundw
                case rel => obtain ⟨q, _, h1, h2, h3, h4⟩ := HEND; exact ⟨kk + 1, q, by omega, h1.out, h2.out, by go_num, h3.out, h4.out⟩
                case measure => simp [intOf]; omega
              · have b5 : (k' == 5) = false := by simpa using e5
                by_cases e3 : k' = 3
                · have b3 : (k' == 3) = true := by simpa using e3
                  have bj : (J3 == 2) = true := by rw [HJ.out, e3]; rfl
                  have bn : (J3 != 2) = false := by simp [bne, bj]
                  clear e2 e5 e3
                  go_wp2
                  go_roundw
                  case rel => obtain ⟨q, _, h1, h2, h3, h4⟩ := HEND; exact ⟨kk + 1, q, by omega, h1.out, h2.out, by go_num, h3.out, h4.out⟩
                  case measure => simp [intOf]; omega
                · have b3 : (k' == 3) = false := by simpa using e3
                  by_cases e6 : k' = 6
                  · have b6 : (k' == 6) = true := by simpa using e6
                    have bj : (J3 == 2) = true := by rw [HJ.out, e6]; rfl
                    have bn : (J3 != 2) = false := by simp [bne, bj]
                    clear e2 e5 e3 e6
                    go_wp2
                    go_roundw
                    case rel => obtain ⟨q, _, h1, h2, h3, h4⟩ := HEND; exact ⟨kk + 1, q, by omega, h1.out, h2.out, by go_num, h3.out, h4.out⟩
                    case measure => simp [intOf]; omega
                  · have b6 : (k' == 6) = false := by simpa using e6
                    have bj : (J3 == 0) = true := by rw [HJ.out]; unfold want; rw [if_neg (by omega), if_neg (by omega)]; rfl
                    have bn : (J3 != 0) = false := by simp [bne, bj]
                    clear e2 e5 e3 e6
                    go_wp2
                    go_roundw
                    case rel => obtain ⟨q, _, h1, h2, h3, h4⟩ := HEND; exact ⟨kk + 1, q, by omega, h1.out, h2.out, by go_num, h3.out, h4.out⟩
                    case measure => simp [intOf]; omega
          · obtain ⟨hJ, hM⟩ := HE3.out.1 rfl
            have bj : (J3 == 0) = true := by simpa using hJ
            have bm : (M3 == 0) = true := by simpa using hM
            clear hJ hM HE3 HF2
            go_wp2
            go_ret
            exact ⟨rfl, HK9.out.bel⟩
    · have hd : kk = n ∨ (kk < n ∧ 60 ≤ kk) := by omega
      clear hrun
      rcases hd with rfl | ⟨hlt, h60⟩
      · go_wp2
        go_ret
        exact ⟨rfl, hkd.out.bel⟩
      · have h60' : ¬ kk < 60 := by omega
        go_wp2
        go_ret
        exact ⟨rfl, hkd.out.bel⟩
end Ph
end Go.Proofs.Ytenolokklkklbaa
