/- The walk of FramesSecond. -/
import Derived.Test.YtpdlholoeaphgaaFrN1
import Derived.Deep.AppendLies
namespace Go.Proofs.Ytpdlholoeaphgaa
open Go.RowKit
namespace Fr
attribute [-go_sem] Builtin.append_
set_option maxHeartbeats 16000000 in
set_option maxRecDepth 100000 in
theorem framesSecond_any (A : Option Addr) (n c : Nat) (L : List Tm) (w : World) (hL : ActsIn w A n c L) :
    Calls Try.prog 4 #[.slice A n c] w fun e w' => e = .returned (.bool true) ∧ Below w.heap.size w w' := by
  have mixed : Try.prog.follows .mixedOrders = true := by kernel_rfl
  obtain ⟨hn, hnc, hcm, hat, hok, _⟩ := hL
  obtain ⟨i0, hi, hz0, hz1, hz2⟩ := info_parts infoI
  obtain ⟨i1, hi1, hz10, hz11, hz12⟩ := info_parts infoB
  have CA := Lib.hid (awake_any w)
  have HN := Lib.hid hn
  have HAT := Lib.hid hat
  clear hn hat hok
  go_enter Try.func4, Try.ntmps4
  go_wp2_with fail
  refine CA.out.mono ?_
  rintro e w1 ⟨rfl, hb1⟩
  have C1 := fnew_any 200 w1
  rw [show clp 200 1 65536 = 200 from rfl] at C1
  have C1 := Lib.hid C1
  have HB1 := Lib.hid hb1
  clear hb1 CA
  go_wp2_with fail
  refine C1.out.mono ?_
  rintro e w2 ⟨rfl, hq2, hb2, hl2⟩
  obtain ⟨W0, hW0⟩ : ∃ W0, W0 = w2.alloc (.cells #[.int .i64 0] 3) := ⟨_, rfl⟩
  have hs1 := HB1.out.size
  have hs2 := hb2.size
  obtain ⟨w3, hrun3, hown3, hgrow3⟩ := run_make_full (P := Try.prog) W0 w.heap.size 42 4 i1 _ 1 Try.underlying42 hi1 hz10 hz11 .i64 .i64 101 (by rw [hz12]; decide) (by decide) (by rw [hW0]; simp; omega)
  rw [show ((101 : Nat) : Int) = 101 from rfl] at hrun3
  have hb20 : Below w2.heap.size w2 W0 := hW0 ▸ below_alloc w2 _
  have hb03 : Below W0.heap.size W0 w3 := (Below.refl _ W0).grown hgrow3 (Nat.le_refl _) (fun q hq => by cases hq)
  have hb23 : Below w2.heap.size w2 w3 := Fr.below_join hb20 hb03
  have hask : W0.ownsRow w.heap.size 3 1 (.slice (some ⟨w2.heap.size, 0, none⟩) 1 1) 1 (iv [0]) := by
    rw [hW0]
    exact World.ownsRow_lit w2 #[.int .i64 0] 1 (by omega) (by decide) rfl
  have HS0 : Hid (Sec 0 0 [0] (List.replicate 101 false) [] []) := Sec.start
  have HF0 : Hid (NF w w3 w.heap.size W0.heap.size w1.heap.size ((([(0 : Int)] : List Int).length : Int) - 1) (.slice none 0 0) (.slice none 0 0) (.slice (some ⟨w2.heap.size, 0, none⟩) 1 1) [0] (List.replicate 101 false) [] []) := by
    refine ⟨hq2.below hb23, fun q hq => ?_, HB1.out.trans ((Fr.below_join hb2 hb23).mono hs1), Nat.le_trans hs1 (Nat.le_trans hs2 hb23.size), own_below hask hb03, ?_⟩
    · rcases hq with h | h | h
      · omega
      · cases h
      · cases h
    · have e : bvs (List.replicate 101 false) = (madeCells (Value.bool false).cells (101 * 1)).toList := by
        rw [show (Value.bool false).cells = #[.bool false] from rfl, toList_madeCells_one]
        simp [bvs]
      rw [e]
      exact hown3
  have HW0 := Lib.hid hW0
  obtain ⟨gw, hgw⟩ : ∃ gw, gw = w.heap.size := ⟨_, rfl⟩
  obtain ⟨gg, hgg⟩ : ∃ gg, gg = W0.heap.size := ⟨_, rfl⟩
  obtain ⟨b, hbb⟩ : ∃ b, b = w1.heap.size := ⟨_, rfl⟩
  have HG := Lib.hid hgw
  rw [← hgw, ← hgg, ← hbb] at HF0
  rw [← hgg] at hrun3
  clear hb20 hb03 hb23 hask hown3 hgrow3 hq2 hb2 hl2 hs1 hs2 C1 HB1 hW0 hgg
  go_upto_region 7 with fail
  rw [← HW0.out]
  rw [← hbb]
  clear hbb hgw HW0
  go_wp2_with fail
  go_loopw [4, 6, 7, 8] (fun va vn vc vi W => ∃ (i : Nat) (now came : Int) (ask : List Int) (gone : List Bool) (r1 r2 : Value) (a1 a2 : List Wt), vn = .int .i64 now ∧ vc = .int .i64 came ∧ vi = .int .i64 i ∧ i ≤ 90 ∧ ask.length ≤ i + 1 ∧ 0 ≤ now ∧ now ≤ (i : Int) ∧ 0 ≤ came ∧ Hid (Sec now came ask gone a1 a2) ∧ Hid (NF w W gw gg b ((ask.length : Int) - 1) r1 r2 va ask gone a1 a2)) (fun _ _ _ vi _ => 90 - (intOf vi).toNat)
  case atStart => exact ⟨0, 0, 0, [0], _, _, _, [], [], rfl, rfl, rfl, by omega, by simp, by omega, by omega, by omega, HS0, HF0⟩
  case round =>
    clear HS0 HF0 hrun3
    obtain ⟨i, now, came, ask, gone, r1, r2, a1, a2, rfl, rfl, rfl, hi90, hal, hn0, hni, hc0, HS, HF⟩ := hrel
    obtain ⟨A4, c4, rfl, hc41, hc42⟩ := own_slice HF.out.ask
    have hcnt := HS.out.cnt
    have hal1 := HS.out.al
    have hcame : came ≤ 100 := by omega
    by_cases hin : i < n
    · by_cases hi8 : i < 90
      · have d1 : (i : Int) < (n : Int) := by omega
        have d2 : (i : Int) < 90 := by omega
        have d0 : (0 : Int) ≤ (i : Int) := by omega
        have hiL : i < L.length := by have := HN.out; omega
        obtain ⟨ba, oa, rfl⟩ : ∃ ba oa, A = some ⟨ba, oa, none⟩ := by
          obtain ⟨b9, o9, e9, _⟩ := HAT.out.one (k := i * 4) (tv_at L i hiL 0 (by omega))
          exact ⟨b9, o9, e9⟩
        obtain ⟨hba, k0, k1, _, _⟩ := act_cells HAT.out hiL
        have hbg : ba < gw := by have := HG.out; omega
        have f0 := (HF.out.bel.cell (p := ⟨ba, oa + i * 4, none⟩) hbg).trans k0
        have f1 := (HF.out.bel.cell (p := ⟨ba, oa + i * 4 + 1, none⟩) hbg).trans k1
        generalize (g L i).tok = kd at *
        generalize (g L i).dl = z at *
        clear k0 k1 hba hiL hbg
        by_cases hk0 : kd = 0
        · subst hk0
          have C5 := fask_ok b 0 78 [] [] r1 r2 ((ask.length : Int) - 1) 200 0 (i : Int) a1 a2 wr HF.out.qm rfl (by decide) (by omega) (by omega) (by omega) (by omega) (by omega)
          rw [show (ask.length : Int) - 1 + 1 = (ask.length : Int) by omega] at C5
          have C5 := Lib.hid C5
          have HS2 := Lib.hid (HS.out.ask 0 (i : Int))
          clear hcnt
          go_wp2_with fail
          refine C5.out.mono ?_
          rintro e w5 ⟨rfl, r2', hq5, hb5, hf5⟩
          have HF5 : Hid (NF w w5 gw gg b (ask.length : Int) r1 r2' (.slice A4 ask.length c4) ask gone a1 (a2 ++ [⟨(ask.length : Int), 0, (i : Int)⟩])) := HF.out.call ⟨hb5, fun q hq => by
            rcases hq with h | h | h
            · exact .inl (.inl h)
            · exact .inl (.inr (.inl h))
            · rcases hf5 q h with h9 | h9
              · exact .inl (.inr (.inr h9))
              · exact .inr h9⟩ hq5
          obtain ⟨v2, w6, hrun2, hown2, hgrow2, _, _⟩ := run_append_own_at (P := Try.prog) (w5.alloc (.cells #[.int .i64 now] 3)) gw 41 41 3 i0 _ 1 8 Try.underlying41 hi hz0 hz1 hz2 rfl (by decide) _ _ _ (HF5.out.below (below_alloc w5 _)).ask ⟨w5.heap.size, 0, none⟩ 1 1 [.int .i64 now] rfl (cells_new' w5 _ _ _ rfl _ rfl) (by intro u hu; simp at hu; subst hu; rfl) (by unfold maxLen; omega) (by omega) (by have := HF5.out.sz; simp; omega)
          have HF6 : Hid (NF w w6 gw gg b (((ask ++ [now]).length : Int) - 1) r1 r2' v2 (ask ++ [now]) gone a1 (a2 ++ [⟨(ask.length : Int), 0, (i : Int)⟩])) := by
            have h9 := (HF5.out.below (below_alloc w5 (.cells #[.int .i64 now] 3))).asked hgrow2 hown2
            rw [show (((ask ++ [now]).length : Int) - 1) = (ask.length : Int) by simp]
            exact h9
          obtain ⟨A6, c6, rfl, _, _⟩ := own_slice hown2
          clear hown2 hgrow2 hq5 hb5 hf5 HF5 HF C5
          go_wp2_with fail
          exact ⟨⟨i + 1, now, came, ask ++ [now], gone, r1, r2', a1, _, rfl, rfl, by go_num, by omega, by simp; omega, hn0, by omega, hc0, HS2, HF6⟩, by simp [intOf]; omega⟩
        · by_cases hk1 : kd = 1
          · subst hk1
            have HAS : Hid (Asc a1 ∧ Asc a2 ∧ ∀ x ∈ a1, ∀ y ∈ a2, x.tok ≠ y.tok) := by
              obtain ⟨h1, h2, h3⟩ := asc_app HS.out.asc
              exact ⟨h1, h2, fun x hx y hy e => by have := h3 x hx y hy; omega⟩
            by_cases hz0' : 0 < z
            · by_cases hz1' : z < (ask.length : Int)
              · obtain ⟨m, rfl⟩ : ∃ m : Nat, z = (m : Int) := ⟨z.toNat, by omega⟩
                have hm1 : 1 ≤ m := by omega
                have hm2 : m < ask.length := by omega
                obtain ⟨b0, bz⟩ := own_set_true HF.out.gone m (by omega)
                obtain ⟨ga, ca, hva, q0⟩ := ask_cell HF.out.ask hm2
                injection hva with hva _ hvc
                subst hva hvc
                have hth := HS.out.there hm1 hm2
                cases hg : bi gone m with
                | true =>
                  rw [hg] at b0
                  have hno : ¬ ∃ x ∈ a1 ++ a2, x.tok = (m : Int) := fun h => by have := (hth.1 h).1; rw [hg] at this; cases this
                  clear hth hg q0 bz
                  have C5 := fcancel_any b 0 78 [] [] r1 r2 ((ask.length : Int) - 1) 200 (m : Int) a1 a2 wr HF.out.qm rfl (by decide) HAS.out.1 HAS.out.2.1 HAS.out.2.2
                  unfold CancelPost at C5
                  rw [decide_eq_false hno, keep_all (L := a1) (fun x hx e => hno ⟨x, List.mem_append_left _ hx, e⟩), keep_all (L := a2) (fun x hx e => hno ⟨x, List.mem_append_right _ hx, e⟩)] at C5
                  have C5 := Lib.hid C5
                  clear hno hcnt
                  go_wp2_with fail
                  refine C5.out.mono ?_
                  rintro e w5 ⟨r1', r2', rfl, hq5, hb5, e1, e2⟩
                  have HF5 : Hid (NF w w5 gw gg b ((ask.length : Int) - 1) r1' r2' (.slice (some ⟨ga, 0, none⟩) ask.length c4) ask gone a1 a2) := HF.out.call ⟨hb5, fun q hq => .inl (by unfold Qb at hq ⊢; rw [e1, e2] at hq; exact hq)⟩ hq5
                  clear hq5 hb5 e1 e2 HF C5
                  go_wp2_with fail
                  exact ⟨⟨i + 1, now, came, ask, gone, r1', r2', a1, a2, rfl, rfl, by go_num, by omega, by omega, hn0, by omega, hc0, HS, HF5⟩, by simp [intOf]; omega⟩
                | false =>
                  rw [hg] at b0
                  by_cases hx : now - 2 < ai ask m
                  · have hyes := hth.2 ⟨hg, hx⟩
                    have C5 := fcancel_any b 0 78 [] [] r1 r2 ((ask.length : Int) - 1) 200 (m : Int) a1 a2 wr HF.out.qm rfl (by decide) HAS.out.1 HAS.out.2.1 HAS.out.2.2
                    unfold CancelPost at C5
                    rw [decide_eq_true hyes] at C5
                    have C5 := Lib.hid C5
                    have HS2 := Lib.hid (HS.out.cancel hm1 hm2 (by omega) hyes)
                    generalize ai ask m = aa at *
                    clear hth hg hyes hcnt
                    go_wp2_with fail
                    refine C5.out.mono ?_
                    rintro e w5 ⟨r1', r2', rfl, hq5, hb5, e1, e2⟩
                    have HF5 : Hid (NF w w5 gw gg b ((ask.length : Int) - 1) r1' r2' (.slice (some ⟨ga, 0, none⟩) ask.length c4) ask gone (keep m a1) (keep m a2)) := HF.out.call ⟨hb5, fun q hq => .inl (by unfold Qb at hq ⊢; rw [e1, e2] at hq; exact hq)⟩ hq5
                    obtain ⟨u0, uz⟩ := own_set_true HF5.out.gone m (by omega)
                    have HF6 := Lib.hid (HF5.out.mark m)
                    clear hq5 hb5 e1 e2 HF C5 b0 bz q0
                    go_wp2_with fail
                    exact ⟨⟨i + 1, now, came + 1, ask, gone.set m true, r1', r2', keep m a1, keep m a2, rfl, rfl, by go_num, by omega, by omega, hn0, by omega, by omega, HS2, HF6⟩, by simp [intOf]; omega⟩
                  · have hno0 : ¬ ∃ x ∈ a1 ++ a2, x.tok = (m : Int) := fun h => hx (hth.1 h).2
                    generalize ai ask m = aa at *
                    have hno := hno0
                    clear hth hg hno0 bz
                    have C5 := fcancel_any b 0 78 [] [] r1 r2 ((ask.length : Int) - 1) 200 (m : Int) a1 a2 wr HF.out.qm rfl (by decide) HAS.out.1 HAS.out.2.1 HAS.out.2.2
                    unfold CancelPost at C5
                    rw [decide_eq_false hno, keep_all (L := a1) (fun x hx e => hno ⟨x, List.mem_append_left _ hx, e⟩), keep_all (L := a2) (fun x hx e => hno ⟨x, List.mem_append_right _ hx, e⟩)] at C5
                    have C5 := Lib.hid C5
                    clear hno hcnt
                    go_wp2_with fail
                    refine C5.out.mono ?_
                    rintro e w5 ⟨r1', r2', rfl, hq5, hb5, e1, e2⟩
                    have HF5 : Hid (NF w w5 gw gg b ((ask.length : Int) - 1) r1' r2' (.slice (some ⟨ga, 0, none⟩) ask.length c4) ask gone a1 a2) := HF.out.call ⟨hb5, fun q hq => .inl (by unfold Qb at hq ⊢; rw [e1, e2] at hq; exact hq)⟩ hq5
                    clear hq5 hb5 e1 e2 HF C5
                    go_wp2_with fail
                    exact ⟨⟨i + 1, now, came, ask, gone, r1', r2', a1, a2, rfl, rfl, by go_num, by omega, by omega, hn0, by omega, hc0, HS, HF5⟩, by simp [intOf]; omega⟩
              · have hno0 : ¬ ∃ x ∈ a1 ++ a2, x.tok = z := HS.out.none (.inr (by omega))
                have hno := hno0
                clear hno0
                have C5 := fcancel_any b 0 78 [] [] r1 r2 ((ask.length : Int) - 1) 200 z a1 a2 wr HF.out.qm rfl (by decide) HAS.out.1 HAS.out.2.1 HAS.out.2.2
                unfold CancelPost at C5
                rw [decide_eq_false hno, keep_all (L := a1) (fun x hx e => hno ⟨x, List.mem_append_left _ hx, e⟩), keep_all (L := a2) (fun x hx e => hno ⟨x, List.mem_append_right _ hx, e⟩)] at C5
                have C5 := Lib.hid C5
                clear hno hcnt
                go_wp2_with fail
                refine C5.out.mono ?_
                rintro e w5 ⟨r1', r2', rfl, hq5, hb5, e1, e2⟩
                have HF5 : Hid (NF w w5 gw gg b ((ask.length : Int) - 1) r1' r2' (.slice A4 ask.length c4) ask gone a1 a2) := HF.out.call ⟨hb5, fun q hq => .inl (by unfold Qb at hq ⊢; rw [e1, e2] at hq; exact hq)⟩ hq5
                clear hq5 hb5 e1 e2 HF C5
                go_wp2_with fail
                exact ⟨⟨i + 1, now, came, ask, gone, r1', r2', a1, a2, rfl, rfl, by go_num, by omega, by omega, hn0, by omega, hc0, HS, HF5⟩, by simp [intOf]; omega⟩
            · have hno0 : ¬ ∃ x ∈ a1 ++ a2, x.tok = z := HS.out.none (.inl (by omega))
              have hno := hno0
              clear hno0
              have C5 := fcancel_any b 0 78 [] [] r1 r2 ((ask.length : Int) - 1) 200 z a1 a2 wr HF.out.qm rfl (by decide) HAS.out.1 HAS.out.2.1 HAS.out.2.2
              unfold CancelPost at C5
              rw [decide_eq_false hno, keep_all (L := a1) (fun x hx e => hno ⟨x, List.mem_append_left _ hx, e⟩), keep_all (L := a2) (fun x hx e => hno ⟨x, List.mem_append_right _ hx, e⟩)] at C5
              have C5 := Lib.hid C5
              clear hno hcnt
              go_wp2_with fail
              refine C5.out.mono ?_
              rintro e w5 ⟨r1', r2', rfl, hq5, hb5, e1, e2⟩
              have HF5 : Hid (NF w w5 gw gg b ((ask.length : Int) - 1) r1' r2' (.slice A4 ask.length c4) ask gone a1 a2) := HF.out.call ⟨hb5, fun q hq => .inl (by unfold Qb at hq ⊢; rw [e1, e2] at hq; exact hq)⟩ hq5
              clear hq5 hb5 e1 e2 HF C5
              go_wp2_with fail
              exact ⟨⟨i + 1, now, came, ask, gone, r1', r2', a1, a2, rfl, rfl, by go_num, by omega, by omega, hn0, by omega, hc0, HS, HF5⟩, by simp [intOf]; omega⟩
          · have C5 := Lib.hid (fframe_any b 0 78 [] [] r1 r2 ((ask.length : Int) - 1) 200 a1 a2 wr HF.out.qm rfl (by decide))
            obtain ⟨A1, c1, hr1, hc11, _⟩ := own_slice HF.out.qm.row1
            have hrb := Lib.hid (Fr.row_ne_blk HF.out.qm.row1 HF.out.qm.blk (by decide))
            have HAL : ask.length ≤ 101 := by omega
            have HS2 := Lib.hid (HS.out.frame HAL)
            have HDUE := Lib.hid (fun j (hj : j < a1.length) => HS.out.due HAL hj)
            have hla1 : a1.length ≤ 91 := by omega
            have HR1 := Lib.hid hr1
            rw [hr1] at C5
            have hsum : came + (a1.length : Int) ≤ 100 := by omega
            clear hr1 hcnt
            go_wp2_with fail
            refine C5.out.mono ?_
            rintro e w5 ⟨rfl, hq5, hb5⟩
            have hown5 : w5.ownsRow 0 49 4 r1 a1.length (rowv 0 a1) := hb5.keepsOwn HF.out.qm.row1 (fun q hq e => hrb.out (by rw [hq, e]))
            have HF5 : Hid (NF w w5 gw gg b ((ask.length : Int) - 1) r2 (.slice none 0 0) (.slice A4 ask.length c4) ask (goneOf gone (a1.take 0)) a2 []) := HF.out.call ⟨hb5.mono (fun q h => .inl h), fun q hq => by
              rcases hq with h | h | h
              · exact .inl (.inl h)
              · exact .inl (.inr (.inr h))
              · cases h⟩ hq5
            rw [HR1.out] at hown5
            have HO5 := Lib.hid hown5
            generalize hN1 : a1.length = N1 at *
            have HN1 := Lib.hid hN1
            clear hq5 hb5 HF C5 hown5 hN1
            go_wp2_with fail
            go_loopw [7, 43] (fun vc vj W => ∃ j : Nat, vj = .int .i64 j ∧ j ≤ N1 ∧ vc = .int .i64 (came + (j : Int)) ∧ Hid (NF w W gw gg b ((ask.length : Int) - 1) r2 (.slice none 0 0) (.slice A4 ask.length c4) ask (goneOf gone (a1.take j)) a2 []) ∧ Hid (W.ownsRow 0 49 4 (.slice A1 N1 c1) N1 (rowv 0 a1))) (fun _ vj _ => N1 - (intOf vj).toNat)
            case atStart => exact ⟨0, rfl, Nat.zero_le _, by simp, HF5, HO5⟩
            case round =>
              clear HF5 HO5
              obtain ⟨j, rfl, hjN, rfl, HFj, HOj⟩ := hrel
              by_cases hjl : j < N1
              · have hj1 : j < a1.length := by have := HN1.out; omega
                obtain ⟨t1, t2, t3, t4⟩ := HDUE.out j (by have := HN1.out; omega)
                obtain ⟨bd, od, hAe, hbd, y0, y1, y2, y3⟩ := at_wt (At.own HOj.out) hj1
                subst hAe
                obtain ⟨m, hm⟩ : ∃ m : Nat, (el a1 j).tok = (m : Int) := ⟨(el a1 j).tok.toNat, by omega⟩
                have hmt : (el a1 j).tok.toNat = m := by omega
                rw [hmt] at t3 t4
                rw [hm] at y0 t1 t2
                have hm1 : 1 ≤ m := by omega
                have hm2 : m < ask.length := by omega
                obtain ⟨b0, bz⟩ := own_set_true HFj.out.gone m (by omega)
                rw [t3] at b0
                obtain ⟨ga, ca, hva, q0⟩ := ask_cell HFj.out.ask hm2
                injection hva with hva _ hvc
                subst hva hvc
                rw [t4] at q0
                have hstep : goneOf gone (a1.take (j + 1)) = (goneOf gone (a1.take j)).set m true := by
                  rw [List.take_add_one, el_at hj1, show (some (el a1 j)).toList = [el a1 j] from rfl, goneOf_snoc, hmt]
                generalize (el a1 j).k = z2 at *
                generalize (el a1 j).n = z3 at *
                obtain ⟨V, hV⟩ : ∃ V, V = wr.alloc (.cells #[.int .i64 (m : Int), .int .i64 0, .int .i64 z2, .int .i64 z3] 49) := ⟨_, rfl⟩
                have hbV : Below wr.heap.size wr V := hV ▸ below_alloc wr _
                have HFV := Lib.hid (HFj.out.below hbV)
                have hT : Blk V wr.heap.size 49 #[.int .i64 (m : Int), .int .i64 0, .int .i64 z2, .int .i64 z3] := hV ▸ Blk.new wr _ _
                have x0 : V.cell? ⟨wr.heap.size, 0, none⟩ = some (.int .i64 (m : Int)) := hT.cell 0 rfl
                obtain ⟨v0, vz⟩ := own_set_true HFV.out.gone m (by omega)
                rw [t3] at v0
                obtain ⟨ga2, ca2, hva2, q1⟩ := ask_cell HFV.out.ask hm2
                injection hva2 with hva2 _ hvc2
                injection hva2 with hva2
                injection hva2 with hva2 _ _
                subst hva2 hvc2
                rw [t4] at q1
                have hgne : wr.heap.size ≠ gg := fun e => by
                  have := Fr.own_lt HFj.out.gone (q := gg) rfl
                  omega
                have HFE : Hid (NF w (V.setCell ⟨gg, m, none⟩ (.bool true)) gw gg b ((ask.length : Int) - 1) r2 (.slice none 0 0) (.slice (some ⟨ga, 0, none⟩) ask.length c4) ask (goneOf gone (a1.take (j + 1))) a2 []) := by
                  show NF _ _ _ _ _ _ _ _ _ _ _ _ _
                  rw [hstep]
                  exact HFV.out.mark m
                have HOE : Hid ((V.setCell ⟨gg, m, none⟩ (.bool true)).ownsRow 0 49 4 (.slice (some ⟨bd, od, none⟩) N1 c1) N1 (rowv 0 a1)) := by
                  have hbs : Beside (fun x => x = gg) V (V.setCell ⟨gg, m, none⟩ (.bool true)) := (Beside.refl (fun x => x = gg) V).set (.inl rfl) _ _
                  refine hbs.keepsOwn (own_below HOj.out hbV) (fun q hq e => ?_)
                  rcases own_ne HOj.out HFj.out.gone (by decide) with h3 | h3
                  · rw [h3] at hq; cases hq
                  · exact h3 (by rw [hq, e]; rfl)
                have HV := Lib.hid hV
                have hcj : came + (j : Int) < 100 := by omega
                clear hV hbV hT t1 t3 t4 hm hmt hstep HFj HOj HFV hj1 hc11 b0 bz q0
                go_upto_region 17 with fail
                rw [← HV.out]
                go_wp2_with fail
                exact ⟨⟨j + 1, by go_num, by omega, by go_num, HFE, HOE⟩, by simp [intOf]; omega⟩
              · obtain rfl : j = N1 := by omega
                have hta : a1.take j = a1 := List.take_of_length_le (by have := HN1.out; omega)
                rw [hta] at HFj
                clear hta
                go_wp2_with fail
                go_loopw [15] (fun vn W => ∃ k : Nat, vn = .int .i64 k ∧ 1 ≤ k ∧ k ≤ ask.length ∧ Hid (NF w W gw gg b ((ask.length : Int) - 1) r2 (.slice none 0 0) (.slice A4 ask.length c4) ask (goneOf gone a1) a2 [])) (fun vn _ => ask.length - (intOf vn).toNat)
                case atStart => exact ⟨1, rfl, Nat.le_refl _, hal1, HFj⟩
                case round =>
                  clear HFj
                  obtain ⟨k, rfl, hk1', hkl, HFk⟩ := hrel
                  by_cases hkk : k < ask.length
                  · obtain ⟨ga, ca, hva, q0⟩ := ask_cell HFk.out.ask hkk
                    injection hva with hva _ hvc
                    subst hva hvc
                    have hold := HS2.out.old k hk1' hkk
                    obtain ⟨b0, _⟩ := own_set_true HFk.out.gone k (by omega)
                    have hk0' : (0 : Int) ≤ (k : Int) := by omega
                    by_cases hle : ai ask k ≤ now + 1 - 2
                    · rw [show bi (goneOf gone a1) k = true from by rcases hold.2 with h | h; exact h; omega] at b0
                      generalize ai ask k = aa at *
                      clear hold
                      go_wp2_with fail
                      exact ⟨⟨k + 1, by go_num, by omega, by omega, HFk⟩, by simp [intOf]; omega⟩
                    · generalize ai ask k = aa at *
                      clear hold
                      go_wp2_with fail
                      exact ⟨⟨k + 1, by go_num, by omega, by omega, HFk⟩, by simp [intOf]; omega⟩
                  · obtain rfl : k = ask.length := by omega
                    go_wp2_with fail
                    exact ⟨⟨i + 1, now + 1, came + (j : Int), ask, goneOf gone a1, r2, _, a2, [], rfl, rfl, by go_num, by omega, by omega, by omega, by omega, by omega, HS2, HFk⟩, by simp [intOf]; omega⟩
      · have d1 : (i : Int) < (n : Int) := by omega
        have d2 : ¬ ((i : Int) < 90) := by omega
        have CL := Lib.hid (HF.out.qm.len (o := 0) rfl)
        have hfin : ((a1.length + a2.length : Nat) : Int) = (ask.length : Int) - 1 - came := by omega
        have HFIN := Lib.hid hfin
        clear hfin hcnt
        generalize a1.length + a2.length = M at *
        go_wp2_with fail
        refine CL.out.mono ?_
        rintro e w9 ⟨rfl, rfl⟩
        go_wp2
        go_ret
        exact ⟨ret_bool' (by simpa using HFIN.out), by rw [← HG.out]; exact HF.out.bel⟩
    · have d1 : ¬ ((i : Int) < (n : Int)) := by omega
      have CL := Lib.hid (HF.out.qm.len (o := 0) rfl)
      have hfin : ((a1.length + a2.length : Nat) : Int) = (ask.length : Int) - 1 - came := by omega
      have HFIN := Lib.hid hfin
      clear hfin hcnt
      generalize a1.length + a2.length = M at *
      go_wp2_with fail
      refine CL.out.mono ?_
      rintro e w9 ⟨rfl, rfl⟩
      go_wp2
      go_ret
      exact ⟨ret_bool' (by simpa using HFIN.out), by rw [← HG.out]; exact HF.out.bel⟩
end Fr
end Go.Proofs.Ytpdlholoeaphgaa
