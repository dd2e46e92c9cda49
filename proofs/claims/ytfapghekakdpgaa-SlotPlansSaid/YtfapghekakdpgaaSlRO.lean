/- Contract of the document's Of: its walk. -/
import Derived.Test.YtfapghekakdpgaaSlRO0
namespace Go.Proofs.Ytfapghekakdpgaa
open Go.RowKit Gr Go.Maps Sl
set_option linter.unusedVariables false
set_option linter.unusedSimpArgs false
attribute [-go_sem] Builtin.append_
def RofPost (L : List Sk) (key : ByteArray) (mode : Int) (w : World) (n : Nat) (e : Ending) (w' : World) : Prop := SofPost L key mode w n e w'
set_option maxHeartbeats 16000000 in
set_option maxRecDepth 100000 in
theorem rof_any (A : Option Addr) (n c : Nat) (L : List Sk) (key : ByteArray) (mode : Int) (w : World) (hn : n = L.length) (h1 : n ≤ 1000) (ha : At w A (scs L)) :
    Calls Try.prog 27 #[.slice A n c, .string key, .int .i64 mode] w fun e w' => SofPost L key mode w n e w' := by
  obtain ⟨i0, hi, hz0, hz1, hz2⟩ := info_parts infoInt
  obtain ⟨rb, hrb⟩ : ∃ b, b = w.heap.size := ⟨_, rfl⟩
  obtain ⟨bp, hbp⟩ : ∃ b, b = w.heap.size + 1 := ⟨_, rfl⟩
  obtain ⟨gb, hgb⟩ : ∃ b, b = w.heap.size + 2 := ⟨_, rfl⟩
  obtain ⟨U, hU⟩ : ∃ W, W = (w.alloc (.cells #[.slice none 0 0, .int .i64 0, .int .i64 0, .slice none 0 0] 52)).alloc (.cells #[.slice none 0 0, .int .i64 (-2), .int .i64 0, .slice none 0 0] 52) := ⟨_, rfl⟩
  have R0 : Hid (RW U rb bp gb 0 none 0 (zs 0) (-2) 0 (.slice none 0 0)) := ⟨by rw [hU, hrb]; exact (Blk.new w _ _).alloc _, by rw [hU, hbp]; exact Blk.new' (w.alloc _) _ _ _ (by simp), World.ownsRow_nil _ _ _ _, rfl, by omega, by omega⟩
  have HBU := Lib.hid (show Below w.heap.size w U by rw [hU]; exact (below_alloc w _).alloc (by simp) _)
  have HU := Lib.hid hU
  have HN := Lib.hid hn
  have HA := Lib.hid ha
  have HG : Hid (rb = w.heap.size ∧ bp = w.heap.size + 1 ∧ gb = w.heap.size + 2) := ⟨hrb, hbp, hgb⟩
  have hus : Hid (U.heap.size = w.heap.size + 2) := by show _ = _; rw [hU]; simp
  have HP := Lib.hid (plan0_len L key mode)
  have HBP := Lib.hid hbp
  have HRB := Lib.hid hrb
  clear hU hn ha hrb hbp hgb
  go_enter Try.func27, Try.ntmps27
  go_upto_region 2 with fail
  rw [← HU.out, ← HBP.out, ← HRB.out]
  go_upto_region 2 with fail
  go_wp2_with fail
  go_loopw [8] (fun i wr => ∃ (k : Nat) (AE : Option Addr) (ce : Nat), k ≤ n ∧ i = .int .i64 k ∧ Hid (RW wr rb bp gb k AE ce (zs k) (-2) 0 (.slice none 0 0)) ∧ Hid (Below w.heap.size w wr)) (fun i _ => n - (intOf i).toNat)
  case atStart => exact ⟨0, none, 0, Nat.zero_le _, rfl, R0, HBU⟩
  case round =>
    obtain ⟨k, AE, ce, hk, rfl, hR, hbel⟩ := hrel
    by_cases hlt : k < n
    · have hwr := hbel.out.size
      have hg2 : gb ≤ wr.heap.size + 1 := by have := hR.out.blk.lt; have := HG.out; omega
      obtain ⟨v1, w1, hrun, hown1, hgrow1, _, hat1⟩ := run_append_own_at (P := Try.prog) (wr.alloc (.cells #[.int .i64 0] 3)) gb 29 29 3 i0 (.int .i64 0) 1 8 Try.underlying29 hi hz0 hz1 hz2 rfl (by decide) _ _ _ (hR.out.row.alloc (.cells #[.int .i64 0] 3)) ⟨wr.heap.size, 0, none⟩ 1 1 [.int .i64 0] rfl (cells_new' _ _ _ _ rfl _ rfl) (fun u hu => by simp at hu; subst hu; rfl) (by unfold maxLen; omega) (by omega) (by rw [size_alloc]; exact hg2)
      obtain ⟨A1, c1, rfl, hc1, hm1⟩ := own_slice hown1
      have NX := Lib.hid (hR.out.grew hgrow1 hown1)
      have B1 := Lib.hid (Below.grown (hbel.out.alloc hwr (.cells #[.int .i64 0] 3)) hgrow1 (by rw [size_alloc]; omega) (fun j hj => by have := hR.out.from' j hj; have := HG.out; omega))
      have B2 := Lib.hid (B1.out.setCell (p := ⟨bp, 0, none⟩) (by have := HG.out; show _ ≤ bp; omega) (.slice A1 (k + 1) c1))
      have e0 := hR.out.blk.cell 0 (v := .slice AE k ce) rfl
      have hb1 := (hR.out.blk.alloc (.cells #[.int .i64 0] 3)).grown hgrow1 (fun e => by have := hR.out.from' _ e.symm; have := hR.out.l2; omega)
      have e1 := hb1.cell 0 (v := .slice AE k ce) rfl
      have p1 := hb1.frozen 0
      clear hown1 hgrow1 hat1 hb1 hg2
      go_wp2_with fail
      clear hrun
      go_roundw
      case rel => exact ⟨k + 1, A1, c1, by omega, by go_num, NX, B2⟩
      case measure => simp [intOf]; omega
    · obtain rfl : n = k := by omega
      have C1 := Lib.hid (rcurrent_any A n c L wr HN.out (by omega) (HA.out.below hbel.out))
      obtain ⟨aa, haa⟩ : ∃ z, z = oI2 (cur L) := ⟨_, rfl⟩
      rw [← haa] at C1
      have HAT := Lib.hid haa
      clear haa
      go_wp2_with fail
      refine C1.out.mono ?_
      rintro e W5 ⟨rfl, hb5⟩
      have R5 := Lib.hid (hR.out.below hb5)
      have B5 := Lib.hid (hbel.out.trans (hb5.mono hbel.out.size))
      have A5 := Lib.hid (HA.out.below B5.out)
      clear hb5 C1 hR hbel
      go_upto_region 8 with fail
      go_cut [45] (fun p wx => p = .bool (stay L key).isSome ∧ wx = W5)
      case first =>
        as_aux_lemma =>
          obtain hcur | ⟨a, hcur⟩ : cur L = none ∨ ∃ a, cur L = some a := by
            cases cur L with
            | none => exact .inl rfl
            | some a => exact .inr ⟨a, rfl⟩
          · obtain rfl : aa = -2 := by rw [HAT.out, hcur]; rfl
            have HS : Hid (stay L key = none) := by show _ = _; unfold stay; rw [hcur]
            clear hcur
            go_wp2_with fail
            go_meet
            exact ⟨by rw [HS.out]; rfl, rfl⟩
          · obtain rfl : aa = (a : Int) := by rw [HAT.out, hcur]; rfl
            obtain ⟨han, hga⟩ := cur_some hcur
            rw [← HN.out] at han
            obtain ⟨b1, o1, rfl, hbb, hx0, hx1⟩ := at_sk A5.out (k := a) (by have := HN.out; omega)
            have ha0 : (0 : Int) ≤ (a : Int) := by omega
            have ha1 : (a : Int) < (n : Int) := by omega
            have HS : Hid (stay L key = if key ≠ ByteArray.empty ∧ (sk L a).1 = key then some a else none) := by show _ = _; unfold stay; rw [hcur]
            generalize (sk L a).1 = s at *
            clear hcur hga hx1
            by_cases hk : key = ByteArray.empty
            · have hkm : key.toList.isEmpty = true := str_em hk
              have HS2 : Hid (stay L key = none) := by show _ = _; rw [HS.out, if_neg (fun h => h.1 hk)]
              clear hk
              go_wp2_with fail
              go_meet
              exact ⟨by rw [HS2.out]; rfl, rfl⟩
            · have hkm : key.toList.isEmpty = false := str_ne hk
              by_cases he : s = key
              · have hst : (s.toList == key.toList) = true := by rw [he]; simp
                have HS2 : Hid (stay L key = some a) := by show _ = _; rw [HS.out, if_pos ⟨hk, he⟩]
                clear hk he
                go_wp2_with fail
                go_meet
                exact ⟨by rw [HS2.out]; rfl, rfl⟩
              · have hst : (s.toList == key.toList) = false := M.str_no he
                have HS2 : Hid (stay L key = none) := by show _ = _; rw [HS.out, if_neg (fun h => he h.2)]
                clear hk he
                go_wp2_with fail
                go_meet
                exact ⟨by rw [HS2.out]; rfl, rfl⟩
      case rest =>
        obtain ⟨rfl, rfl⟩ := hcut
        rename World => W5
        obtain ⟨sb, hsb⟩ : ∃ b, b = (stay L key).isSome := ⟨_, rfl⟩
        rw [← hsb]
        have HSB := Lib.hid hsb
        clear hsb
        go_upto_if 45 with fail
        go_cut [10] (fun p wx => p = .bool (entQ L (plan0 L key mode)) ∧ Hid (RW wx rb bp gb n AE ce (plan0 L key mode).each (plan0 L key mode).take (plan0 L key mode).start (.slice none 0 0)) ∧ Hid (Below w.heap.size w wx))
        case first =>
          cases sb with
          | true =>
            as_aux_lemma =>
              obtain ⟨a, hsa⟩ : ∃ a, stay L key = some a := by
                cases h : stay L key with
                | none => have := HSB.out; rw [h] at this; cases this
                | some a => exact ⟨a, rfl⟩
              obtain ⟨hcur, hk, _⟩ := stay_some hsa
              obtain rfl : aa = (a : Int) := by rw [HAT.out, hcur]; rfl
              obtain ⟨han, hga⟩ := cur_some hcur
              rw [← HN.out] at han
              obtain ⟨b1, o1, rfl, hbb, hx0, hx1⟩ := at_sk A5.out (k := a) (by have := HN.out; omega)
              have ha0 : (0 : Int) ≤ (a : Int) := by omega
              have ha1 : (a : Int) < (n : Int) := by omega
              have HPL : Hid (plan0 L key mode = ⟨zs n, (a : Int), 0⟩) := by show _ = _; unfold plan0; rw [hsa, HN.out]
              obtain ⟨z, hz⟩ : ∃ z, z = (sk L a).2 := ⟨_, rfl⟩
              have HEN : Hid (entQ L (plan0 L key mode) = enI z) := by
                show _ = _
                rw [HPL.out]
                unfold entQ
                dsimp only
                rw [ats_zs, decide_eq_true ha0, show (a : Int).toNat = a from rfl, ← hz]
                simp
              rw [← hz] at hx1
              have HX1 := Lib.hid hx1
              clear hsa hcur hk hga hx0 hx1 hz
              have e1 := R5.out.blk.cell 1 (v := .int .i64 (-2)) rfl
              have p1 := R5.out.blk.frozen 1
              go_upto_region 10 with fail
              obtain ⟨Z, hZ⟩ : ∃ W, W = W5.setCell ⟨bp, 1, none⟩ (.int .i64 (a : Int)) := ⟨_, rfl⟩
              rw [← hZ]
              have RZ := Lib.hid (show RW Z rb bp gb n AE ce (zs n) (a : Int) 0 (.slice none 0 0) by rw [hZ]; exact R5.out.setT _)
              have BZ := Lib.hid (show Below w.heap.size w Z by rw [hZ]; exact B5.out.setCell (p := ⟨bp, 1, none⟩) (by have := HG.out; show _ ≤ bp; omega) _)
              have hx1 : Z.cell? ⟨b1, o1 + a * 2 + 1, none⟩ = some (.int .i64 z) := by
                rw [hZ]
                obtain ⟨b2, o2, e5, hb2, _, hq⟩ := at_sk HA.out (k := a) (by have := HN.out; omega)
                injection e5 with e5
                injection e5 with e6 e7
                subst e6 e7
                rw [← hZ]
                exact (BZ.out.cell (p := ⟨b1, o1 + a * 2 + 1, none⟩) hb2).trans (((B5.out.cell (p := ⟨b1, o1 + a * 2 + 1, none⟩) hb2).symm).trans HX1.out)
              clear hZ e1 p1
              by_cases z2 : z = 2
              · have q2 : (z == 2) = true := by simpa using z2
                have HE2 : Hid (enI z = true) := by show _ = _; unfold enI; rw [decide_eq_true z2]; rfl
                clear z2
                go_wp2_with fail
                go_meet
                exact ⟨by rw [HEN.out, HE2.out], by rw [HPL.out]; exact RZ, BZ⟩
              · have q2 : (z == 2) = false := by simpa using z2
                by_cases z3 : z = 3
                · have q3 : (z == 3) = true := by simpa using z3
                  have HE2 : Hid (enI z = true) := by show _ = _; unfold enI; rw [decide_eq_true z3]; simp
                  clear z2 z3
                  go_wp2_with fail
                  go_meet
                  exact ⟨by rw [HEN.out, HE2.out], by rw [HPL.out]; exact RZ, BZ⟩
                · have q3 : (z == 3) = false := by simpa using z3
                  have HE2 : Hid (enI z = false) := by show _ = _; unfold enI; rw [decide_eq_false z2, decide_eq_false z3]; rfl
                  clear z2 z3
                  go_wp2_with fail
                  go_meet
                  exact ⟨by rw [HEN.out, HE2.out], by rw [HPL.out]; exact RZ, BZ⟩
          | false =>
            as_aux_lemma =>
              have HS : Hid (stay L key = none) := by
                show _ = _
                cases h : stay L key with
                | none => rfl
                | some a => have := HSB.out; rw [h] at this; cases this
              have HPR : Hid (plan0 L key mode = repl L key mode) := by show _ = _; unfold plan0; rw [HS.out]
              go_upto_if 63 with fail
              go_cut [] (fun wx => Hid (RW wx rb bp gb n AE ce (each1 L key mode) (-2) 0 (.slice none 0 0)) ∧ Hid (Below w.heap.size w wx))
              case first =>
                as_aux_lemma =>
                  obtain hcur | ⟨a, hcur⟩ : cur L = none ∨ ∃ a, cur L = some a := by
                    cases cur L with
                    | none => exact .inl rfl
                    | some a => exact .inr ⟨a, rfl⟩
                  · obtain rfl : aa = -2 := by rw [HAT.out, hcur]; rfl
                    have HE1 : Hid (each1 L key mode = zs n) := by show _ = _; unfold each1; rw [hcur, HN.out]
                    clear hcur
                    go_wp2_with fail
                    go_meet
                    exact ⟨by rw [HE1.out]; exact R5, B5⟩
                  · obtain rfl : aa = (a : Int) := by rw [HAT.out, hcur]; rfl
                    obtain ⟨han, hga⟩ := cur_some hcur
                    rw [← HN.out] at han
                    obtain ⟨b1, o1, rfl, hbb, hx0, hx1⟩ := at_sk A5.out (k := a) (by have := HN.out; omega)
                    have ha0 : (0 : Int) ≤ (a : Int) := by omega
                    have ha1 : (a : Int) < (n : Int) := by omega
                    obtain ⟨eb, rfl⟩ := row_addr R5.out.row (by omega)
                    obtain ⟨z, hz⟩ : ∃ z, z = (sk L a).2 := ⟨_, rfl⟩
                    have HE1 : Hid (each1 L key mode = (zs n).set a (yieldI z key mode)) := by show _ = _; unfold each1; rw [hcur, HN.out, hz]
                    have hcell : ∀ W, Below w.heap.size w W → W.cell? ⟨b1, o1 + a * 2 + 1, none⟩ = some (.int .i64 z) := fun W hW => by
                      obtain ⟨b2, o2, e5, hb2, _, hq⟩ := at_sk HA.out (k := a) (by have := HN.out; omega)
                      injection e5 with e5
                      injection e5 with e6 e7
                      subst e6 e7
                      rw [hz]
                      exact (hW.cell (p := ⟨b1, o1 + a * 2 + 1, none⟩) hb2).trans hq
                    have HC := Lib.hid hcell
                    have hgeb : w.heap.size ≤ eb := by have := R5.out.from' eb rfl; have := HG.out; omega
                    have HEB := Lib.hid hgeb
                    clear hcell hz hcur hga hx0 hx1 hgeb
                    have e0 := R5.out.blk.cell 0 (v := .slice (some ⟨eb, 0, none⟩) n ce) rfl
                    have e1 := R5.out.at' (i := a) han
                    have p1 := R5.out.frozenE a
                    go_upto_region 13 with fail
                    obtain ⟨Z, hZ⟩ : ∃ W, W = W5.setCell ⟨eb, a, none⟩ (.int .i64 1) := ⟨_, rfl⟩
                    rw [← hZ]
                    have RZ := Lib.hid (show RW Z rb bp gb n (some ⟨eb, 0, none⟩) ce ((zs n).set a 1) (-2) 0 (.slice none 0 0) by rw [hZ]; exact R5.out.setE a 1)
                    have BZ := Lib.hid (show Below w.heap.size w Z by rw [hZ]; exact B5.out.setCell (p := ⟨eb, a, none⟩) HEB.out _)
                    clear hZ e0 e1 p1
                    by_cases m2 : mode = 2
                    · have q2 : (mode == 2) = true := by simpa using m2
                      by_cases hk : key = ByteArray.empty
                      · have hkm : key.toList.isEmpty = true := str_em hk
                        have HM : Hid (¬ (mode = 2 ∧ key ≠ ByteArray.empty)) := fun h => h.2 hk
                        clear m2 hk
                        have e0 := RZ.out.blk.cell 0 (v := .slice (some ⟨eb, 0, none⟩) n ce) rfl
                        have e1 := RZ.out.at' (i := a) han
                        have p1 := RZ.out.frozenE a
                        have hzc := HC.out Z BZ.out
                        by_cases z1 : z = 1
                        · have q1 : (z == 1) = true := by simpa using z1
                          have HY : Hid (yieldI z key mode = 3) := by show _ = _; unfold yieldI; rw [if_pos z1]
                          have RF : Hid (RW (Z.setCell ⟨eb, a, none⟩ (.int .i64 3)) rb bp gb n (some ⟨eb, 0, none⟩) ce (each1 L key mode) (-2) 0 (.slice none 0 0)) := by show RW _ _ _ _ _ _ _ _ _ _ _; have h9 := RZ.out.setE a 3; rw [List.set_set] at h9; rw [HE1.out, HY.out]; exact h9
                          have BF := Lib.hid (BZ.out.setCell (p := ⟨eb, a, none⟩) HEB.out (.int .i64 3))
                          clear z1
                          go_wp2_with fail
                          go_meet
                          exact ⟨RF, BF⟩
                        · have q1 : (z == 1) = false := by simpa using z1
                          have HY : Hid (yieldI z key mode = 1) := by show _ = _; unfold yieldI; rw [if_neg z1, if_neg HM.out]
                          have RF : Hid (RW Z rb bp gb n (some ⟨eb, 0, none⟩) ce (each1 L key mode) (-2) 0 (.slice none 0 0)) := by show RW _ _ _ _ _ _ _ _ _ _ _; rw [HE1.out, HY.out]; exact RZ.out
                          clear z1
                          go_wp2_with fail
                          go_meet
                          exact ⟨RF, BZ⟩
                      · have hkm : key.toList.isEmpty = false := str_ne hk
                        have HM := Lib.hid m2
                        have HK := Lib.hid hk
                        clear m2 hk
                        have e0 := RZ.out.blk.cell 0 (v := .slice (some ⟨eb, 0, none⟩) n ce) rfl
                        have e1 := RZ.out.at' (i := a) han
                        have p1 := RZ.out.frozenE a
                        go_upto_region 15 with fail
                        obtain ⟨Y, hY⟩ : ∃ W, W = Z.setCell ⟨eb, a, none⟩ (.int .i64 2) := ⟨_, rfl⟩
                        rw [← hY]
                        have RY := Lib.hid (show RW Y rb bp gb n (some ⟨eb, 0, none⟩) ce ((zs n).set a 2) (-2) 0 (.slice none 0 0) by rw [hY]; have h9 := RZ.out.setE a 2; rw [List.set_set] at h9; exact h9)
                        have BY := Lib.hid (show Below w.heap.size w Y by rw [hY]; exact BZ.out.setCell (p := ⟨eb, a, none⟩) HEB.out _)
                        clear hY e0 e1 p1
                        have e0 := RY.out.blk.cell 0 (v := .slice (some ⟨eb, 0, none⟩) n ce) rfl
                        have e1 := RY.out.at' (i := a) han
                        have p1 := RY.out.frozenE a
                        have hzc := HC.out Y BY.out
                        by_cases z1 : z = 1
                        · have q1 : (z == 1) = true := by simpa using z1
                          have HY : Hid (yieldI z key mode = 3) := by show _ = _; unfold yieldI; rw [if_pos z1]
                          have RF : Hid (RW (Y.setCell ⟨eb, a, none⟩ (.int .i64 3)) rb bp gb n (some ⟨eb, 0, none⟩) ce (each1 L key mode) (-2) 0 (.slice none 0 0)) := by show RW _ _ _ _ _ _ _ _ _ _ _; have h9 := RY.out.setE a 3; rw [List.set_set] at h9; rw [HE1.out, HY.out]; exact h9
                          have BF := Lib.hid (BY.out.setCell (p := ⟨eb, a, none⟩) HEB.out (.int .i64 3))
                          clear z1
                          go_wp2_with fail
                          go_meet
                          exact ⟨RF, BF⟩
                        · have q1 : (z == 1) = false := by simpa using z1
                          have HY : Hid (yieldI z key mode = 2) := by show _ = _; unfold yieldI; rw [if_neg z1, if_pos ⟨HM.out, HK.out⟩]
                          have RF : Hid (RW Y rb bp gb n (some ⟨eb, 0, none⟩) ce (each1 L key mode) (-2) 0 (.slice none 0 0)) := by show RW _ _ _ _ _ _ _ _ _ _ _; rw [HE1.out, HY.out]; exact RY.out
                          clear z1
                          go_wp2_with fail
                          go_meet
                          exact ⟨RF, BY⟩
                    · have q2 : (mode == 2) = false := by simpa using m2
                      have HM : Hid (¬ (mode = 2 ∧ key ≠ ByteArray.empty)) := fun h => m2 h.1
                      clear m2
                      have e0 := RZ.out.blk.cell 0 (v := .slice (some ⟨eb, 0, none⟩) n ce) rfl
                      have e1 := RZ.out.at' (i := a) han
                      have p1 := RZ.out.frozenE a
                      have hzc := HC.out Z BZ.out
                      by_cases z1 : z = 1
                      · have q1 : (z == 1) = true := by simpa using z1
                        have HY : Hid (yieldI z key mode = 3) := by show _ = _; unfold yieldI; rw [if_pos z1]
                        have RF : Hid (RW (Z.setCell ⟨eb, a, none⟩ (.int .i64 3)) rb bp gb n (some ⟨eb, 0, none⟩) ce (each1 L key mode) (-2) 0 (.slice none 0 0)) := by show RW _ _ _ _ _ _ _ _ _ _ _; have h9 := RZ.out.setE a 3; rw [List.set_set] at h9; rw [HE1.out, HY.out]; exact h9
                        have BF := Lib.hid (BZ.out.setCell (p := ⟨eb, a, none⟩) HEB.out (.int .i64 3))
                        clear z1
                        go_wp2_with fail
                        go_meet
                        exact ⟨RF, BF⟩
                      · have q1 : (z == 1) = false := by simpa using z1
                        have HY : Hid (yieldI z key mode = 1) := by show _ = _; unfold yieldI; rw [if_neg z1, if_neg HM.out]
                        have RF : Hid (RW Z rb bp gb n (some ⟨eb, 0, none⟩) ce (each1 L key mode) (-2) 0 (.slice none 0 0)) := by show RW _ _ _ _ _ _ _ _ _ _ _; rw [HE1.out, HY.out]; exact RZ.out
                        clear z1
                        go_wp2_with fail
                        go_meet
                        exact ⟨RF, BZ⟩
              case rest =>
                obtain ⟨R6, B6⟩ := hcut
                rename World => W6
                have A6 := Lib.hid (HA.out.below B6.out)
                clear R5 B5 A5
                by_cases hk : key = ByteArray.empty
                · have hkm : key.toList.isEmpty = true := str_em hk
                  have HPL : Hid (plan0 L key mode = ⟨each1 L key mode, -2, 0⟩) := by show _ = _; rw [HPR.out]; unfold repl; rw [if_pos hk]
                  clear hk
                  go_wp2_with fail
                  go_meet
                  exact ⟨by rw [HPL.out]; rfl, by rw [HPL.out]; exact R6, B6⟩
                · have hkm : key.toList.isEmpty = false := str_ne hk
                  have HPL : Hid (plan0 L key mode = ⟨each2 L key mode, oI (back L key), startB L key mode⟩) := by show _ = _; rw [HPR.out]; unfold repl; rw [if_neg hk]
                  clear hk
                  as_aux_lemma =>
                    have e1 := R6.out.blk.cell 1 (v := .int .i64 (-2)) rfl
                    have p1 := R6.out.blk.frozen 1
                    go_upto_region 19 with fail
                    obtain ⟨W7, hW7⟩ : ∃ W, W = W6.setCell ⟨bp, 1, none⟩ (.int .i64 (-1)) := ⟨_, rfl⟩
                    rw [← hW7]
                    have R7 := Lib.hid (show RW W7 rb bp gb n AE ce (each1 L key mode) (-1) 0 (.slice none 0 0) by rw [hW7]; exact R6.out.setT _)
                    have B7 := Lib.hid (show Below w.heap.size w W7 by rw [hW7]; exact B6.out.setCell (p := ⟨bp, 1, none⟩) (by have := HG.out; show _ ≤ bp; omega) _)
                    clear hW7 e1 p1 R6 B6 A6
                    go_upto_region 20 with fail
                    go_loopw [11] (fun i wr => ∃ (k : Nat) (t : Int), k ≤ n ∧ i = .int .i64 ((k : Int) - 1) ∧ Hid (RW wr rb bp gb n AE ce (each1 L key mode) t 0 (.slice none 0 0)) ∧ Hid (Below w.heap.size w wr) ∧ Hid ((t = -1 ∧ ∀ j, k ≤ j → j < n → backQ L key j = false) ∨ (∃ b : Nat, t = (b : Int) ∧ k ≤ b ∧ b < n ∧ backQ L key b = true ∧ ∀ j, k ≤ j → j < b → backQ L key j = false))) (fun i _ => (intOf i + 1).toNat)
                    case atStart => exact ⟨n, -1, Nat.le_refl _, rfl, R7, B7, .inl ⟨rfl, fun j h1 h2 => by omega⟩⟩
                    case round =>
                      obtain ⟨k, t, hk, rfl, hR, hbel, hq⟩ := hrel
                      by_cases hlt : 0 < k
                      · obtain ⟨q, rfl⟩ : ∃ q, k = q + 1 := ⟨k - 1, by omega⟩
                        obtain ⟨b1, o1, rfl, hb1, hc0, hc1⟩ := at_sk HA.out (k := q) (by have := HN.out; omega)
                        have hd0 := (hbel.out.cell (p := ⟨b1, o1 + q * 2, none⟩) hb1).trans hc0
                        have hd1 := (hbel.out.cell (p := ⟨b1, o1 + q * 2 + 1, none⟩) hb1).trans hc1
                        have hbq : backQ L key q = (ghI (sk L q).2 && decide ((sk L q).1 = key)) := rfl
                        generalize (sk L q).1 = s at *
                        generalize (sk L q).2 = z at *
                        have CK := Lib.hid (rghost_any s z wr)
                        have HBQ := Lib.hid hbq
                        obtain ⟨g, hg⟩ : ∃ g, g = ghI z := ⟨_, rfl⟩
                        rw [← hg] at CK
                        have HGH := Lib.hid hg
                        have hi0 : (0 : Int) ≤ ((q + 1 : Nat) : Int) - 1 := by omega
                        have hi1 : ((q + 1 : Nat) : Int) - 1 < (n : Int) := by omega
                        have hix : ((q + 1 : Nat) : Int) - 1 = (q : Int) := by omega
                        rw [hix]
                        have hi2 : (0 : Int) ≤ (q : Int) := by omega
                        have hi3 : (q : Int) < (n : Int) := by omega
                        clear hc0 hc1 hbq hg hix hi0 hi1
                        go_wp2_with fail
                        refine CK.out.mono ?_
                        rintro e w6 ⟨rfl, hb6⟩
                        have R6 := Lib.hid (hR.out.below hb6)
                        have B6 := Lib.hid (hbel.out.trans (hb6.mono hbel.out.size))
                        have hd6 := (B6.out.cell (p := ⟨b1, o1 + q * 2, none⟩) hb1).trans ((hbel.out.cell (p := ⟨b1, o1 + q * 2, none⟩) hb1).symm.trans hd0)
                        clear hb6 CK hd0 hd1
                        cases g with
                        | false =>
                          have HF : Hid (backQ L key q = false) := by show _ = _; rw [HBQ.out, ← HGH.out]; rfl
                          go_wp2_with fail
                          go_roundw
                          case rel => exact ⟨q, t, by omega, by go_num, R6, B6, Lib.hid (hq.out.elim (fun h => .inl ⟨h.1, fun j h1 h2 => by
                              by_cases e : j = q
                              · rw [e]; exact HF.out
                              · exact h.2 j (by omega) h2⟩) (fun ⟨b, h1, h2, h3, h4, h5⟩ => .inr ⟨b, h1, by omega, h3, h4, fun j h6 h7 => by
                              by_cases e : j = q
                              · rw [e]; exact HF.out
                              · exact h5 j (by omega) h7⟩))⟩
                          case measure => simp [intOf] <;> omega
                        | true =>
                          by_cases he : s = key
                          · have hst : (s.toList == key.toList) = true := by rw [he]; simp
                            have HF : Hid (backQ L key q = true) := by show _ = _; rw [HBQ.out, ← HGH.out, decide_eq_true he]; rfl
                            have e1 := R6.out.blk.cell 1 (v := .int .i64 t) rfl
                            have p1 := R6.out.blk.frozen 1
                            have RF := Lib.hid (R6.out.setT (q : Int))
                            have BF := Lib.hid (B6.out.setCell (p := ⟨bp, 1, none⟩) (by have := HG.out; show _ ≤ bp; omega) (.int .i64 (q : Int)))
                            clear he
                            go_wp2_with fail
                            go_roundw
                            case rel => exact ⟨q, (q : Int), by omega, by go_num, RF, BF, .inr ⟨q, rfl, Nat.le_refl _, by omega, HF.out, fun j h1 h2 => by omega⟩⟩
                            case measure => simp [intOf] <;> omega
                          · have hst : (s.toList == key.toList) = false := M.str_no he
                            have HF : Hid (backQ L key q = false) := by show _ = _; rw [HBQ.out, ← HGH.out, decide_eq_false he]; rfl
                            clear he
                            go_wp2_with fail
                            go_roundw
                            case rel => exact ⟨q, t, by omega, by go_num, R6, B6, Lib.hid (hq.out.elim (fun h => .inl ⟨h.1, fun j h1 h2 => by
                              by_cases e : j = q
                              · rw [e]; exact HF.out
                              · exact h.2 j (by omega) h2⟩) (fun ⟨b, h1, h2, h3, h4, h5⟩ => .inr ⟨b, h1, by omega, h3, h4, fun j h6 h7 => by
                              by_cases e : j = q
                              · rw [e]; exact HF.out
                              · exact h5 j (by omega) h7⟩))⟩
                            case measure => simp [intOf] <;> omega
                      · obtain rfl : k = 0 := by omega
                        have HTK : Hid (t = oI (back L key)) := by
                          show _ = _
                          unfold back
                          rw [← HN.out]
                          rcases hq.out with ⟨rfl, h⟩ | ⟨b, rfl, _, hb, hbq, h⟩
                          · rw [fi_no (fun j hj => h j (Nat.zero_le _) hj)]; rfl
                          · rw [fi_is hb hbq (fun j hj => h j (Nat.zero_le _) hj)]; rfl
                        rename World => W8
                        have R8 := hR
                        have B8 := hbel
                        clear hq hR hbel R7 B7
                        have e2 := R8.out.blk.cell 2 (v := .int .i64 0) rfl
                        have p2 := R8.out.blk.frozen 2
                        go_upto_region 25 with fail
                        obtain ⟨W9, hW9⟩ : ∃ W, W = W8.setCell ⟨bp, 2, none⟩ (.int .i64 1) := ⟨_, rfl⟩
                        rw [← hW9]
                        have R9 := Lib.hid (show RW W9 rb bp gb n AE ce (each1 L key mode) t 1 (.slice none 0 0) by rw [hW9]; exact R8.out.setS _)
                        have B9 := Lib.hid (show Below w.heap.size w W9 by rw [hW9]; exact B8.out.setCell (p := ⟨bp, 2, none⟩) (by have := HG.out; show _ ≤ bp; omega) _)
                        clear hW9 e2 p2 R8 B8
                        have e1 := R9.out.blk.cell 1 (v := .int .i64 t) rfl
                        go_upto_if 117 with fail
                        go_cut [] (fun wx => Hid (RW wx rb bp gb n AE ce (each2 L key mode) t (if backHeld L key = true then 0 else 1) (.slice none 0 0)) ∧ Hid (Below w.heap.size w wx))
                        case first =>
                          as_aux_lemma =>
                            obtain hbk | ⟨b, hbk⟩ : back L key = none ∨ ∃ a, back L key = some a := by
                              cases back L key with
                              | none => exact .inl rfl
                              | some a => exact .inr ⟨a, rfl⟩
                            · obtain rfl : t = -1 := by rw [HTK.out, hbk]; rfl
                              have HE2 : Hid (each2 L key mode = each1 L key mode) := by show _ = _; unfold each2; rw [hbk]
                              have HBH : Hid (backHeld L key = false) := by show _ = _; unfold backHeld; rw [hbk]
                              clear hbk
                              go_wp2_with fail
                              go_meet
                              exact ⟨by rw [HE2.out, HBH.out]; exact R9, B9⟩
                            · obtain rfl : t = (b : Int) := by rw [HTK.out, hbk]; rfl
                              obtain ⟨hbn, hbg, _⟩ := back_some hbk
                              rw [← HN.out] at hbn
                              obtain ⟨eb, rfl⟩ := row_addr R9.out.row (by omega)
                              have HE2 : Hid (each2 L key mode = (each1 L key mode).set b 4) := by show _ = _; unfold each2; rw [hbk]
                              have HBH : Hid (backHeld L key = decide ((sk L b).2 = 4)) := by show _ = _; unfold backHeld; rw [hbk]
                              have HEB : Hid (w.heap.size ≤ eb) := by have h8 := R9.out.from' eb rfl; have h9 := HG.out; show _ ≤ _; omega
                              obtain ⟨b1, o1, rfl, hb1, _, hc1⟩ := at_sk HA.out (k := b) (by have := HN.out; omega)
                              obtain ⟨z, hz⟩ : ∃ z, z = (sk L b).2 := ⟨_, rfl⟩
                              rw [← hz] at hc1 HBH
                              have ha0 : (0 : Int) ≤ (b : Int) := by omega
                              have ha1 : (b : Int) < (n : Int) := by omega
                              have HC1 := Lib.hid hc1
                              clear hbk hbg hz hc1
                              have e0 := R9.out.blk.cell 0 (v := .slice (some ⟨eb, 0, none⟩) n ce) rfl
                              have e3 := R9.out.at' (i := b) hbn
                              have p3 := R9.out.frozenE b
                              go_upto_region 27 with fail
                              obtain ⟨Z, hZ⟩ : ∃ W, W = W9.setCell ⟨eb, b, none⟩ (.int .i64 4) := ⟨_, rfl⟩
                              rw [← hZ]
                              have RZ := Lib.hid (show RW Z rb bp gb n (some ⟨eb, 0, none⟩) ce (each2 L key mode) (b : Int) 1 (.slice none 0 0) by rw [hZ, HE2.out]; exact R9.out.setE b 4)
                              have BZ := Lib.hid (show Below w.heap.size w Z by rw [hZ]; exact B9.out.setCell (p := ⟨eb, b, none⟩) HEB.out _)
                              have hd1 := (BZ.out.cell (p := ⟨b1, o1 + b * 2 + 1, none⟩) hb1).trans HC1.out
                              clear hZ e0 e1 e3 p3
                              have e1 := RZ.out.blk.cell 1 (v := .int .i64 (b : Int)) rfl
                              by_cases z4 : z = 4
                              · have q4 : (z == 4) = true := by simpa using z4
                                have e2 := RZ.out.blk.cell 2 (v := .int .i64 1) rfl
                                have p2 := RZ.out.blk.frozen 2
                                have RF := Lib.hid (RZ.out.setS 0)
                                have BF := Lib.hid (BZ.out.setCell (p := ⟨bp, 2, none⟩) (by have := HG.out; show _ ≤ bp; omega) (.int .i64 0))
                                have HZ4 := Lib.hid z4
                                clear z4
                                go_wp2_with fail
                                go_meet
                                exact ⟨by rw [HBH.out, decide_eq_true HZ4.out]; exact RF, BF⟩
                              · have q4 : (z == 4) = false := by simpa using z4
                                have HZ4 := Lib.hid z4
                                clear z4
                                go_wp2_with fail
                                go_meet
                                exact ⟨by rw [HBH.out, decide_eq_false HZ4.out]; exact RZ, BZ⟩
                        case rest =>
                          obtain ⟨RA, BA⟩ := hcut
                          rename World => WA
                          clear R9 B9 e1
                          as_aux_lemma =>
                            obtain ⟨s0, hs0⟩ : ∃ z : Int, z = (if backHeld L key = true then 0 else 1) := ⟨_, rfl⟩
                            obtain ⟨E2, hE2⟩ : ∃ z, z = each2 L key mode := ⟨_, rfl⟩
                            rw [← hs0, ← hE2] at RA
                            have HS0 := Lib.hid hs0
                            have HE2 := Lib.hid hE2
                            have AA := Lib.hid (HA.out.below BA.out)
                            clear hs0 hE2
                            go_upto_region 29 with fail
                            go_cut [12] (fun p wx => p = .bool (wt0 L E2) ∧ wx = WA)
                            case first =>
                              obtain hcur | ⟨a, hcur⟩ : cur L = none ∨ ∃ a, cur L = some a := by
                                cases cur L with
                                | none => exact .inl rfl
                                | some a => exact .inr ⟨a, rfl⟩
                              · obtain rfl : aa = -2 := by rw [HAT.out, hcur]; rfl
                                have HW : Hid (wt0 L E2 = false) := by show _ = _; unfold wt0; rw [hcur]
                                clear hcur
                                go_wp2_with fail
                                go_meet
                                exact ⟨by rw [HW.out], rfl⟩
                              · obtain rfl : aa = (a : Int) := by rw [HAT.out, hcur]; rfl
                                have han := (cur_some hcur).1
                                rw [← HN.out] at han
                                obtain ⟨eb, rfl⟩ := row_addr RA.out.row (by omega)
                                have HW : Hid (wt0 L E2 = decide (ats E2 a = 1)) := by show _ = _; unfold wt0; rw [hcur]
                                have ha0 : (0 : Int) ≤ (a : Int) := by omega
                                have ha1 : (a : Int) < (n : Int) := by omega
                                have e0 := RA.out.blk.cell 0 (v := .slice (some ⟨eb, 0, none⟩) n ce) rfl
                                have e3 := RA.out.at' (i := a) han
                                clear hcur
                                generalize ats E2 a = x at *
                                by_cases x1 : x = 1
                                · have q1 : (x == 1) = true := by simpa using x1
                                  have HX := Lib.hid x1
                                  clear x1
                                  go_wp2_with fail
                                  go_meet
                                  exact ⟨by rw [HW.out, decide_eq_true HX.out], rfl⟩
                                · have q1 : (x == 1) = false := by simpa using x1
                                  have HX := Lib.hid x1
                                  clear x1
                                  go_wp2_with fail
                                  go_meet
                                  exact ⟨by rw [HW.out, decide_eq_false HX.out], rfl⟩
                            case rest =>
                              obtain ⟨rfl, rfl⟩ := hcut
                              rename World => WA
                              go_upto_region 31 with fail
                              go_loopw [12, 143] (fun u i wr => ∃ k : Nat, k ≤ n ∧ i = .int .i64 k ∧ u = .bool (wtK L E2 t k) ∧ Hid (RW wr rb bp gb n AE ce E2 t s0 (.slice none 0 0)) ∧ Hid (Below w.heap.size w wr)) (fun _ i _ => n - (intOf i).toNat)
                              case atStart => exact ⟨0, Nat.zero_le _, rfl, by unfold wtK; simp [fi], RA, BA⟩
                              case round =>
                                obtain ⟨k, hk, rfl, rfl, hR, hbel⟩ := hrel
                                by_cases hlt : k < n
                                · obtain ⟨b1, o1, rfl, hb1, hc0, hc1⟩ := at_sk HA.out (k := k) (by have := HN.out; omega)
                                  have hd0 := (hbel.out.cell (p := ⟨b1, o1 + k * 2, none⟩) hb1).trans hc0
                                  have hd1 := (hbel.out.cell (p := ⟨b1, o1 + k * 2 + 1, none⟩) hb1).trans hc1
                                  have hnx := wtK_next L E2 t k
                                  have hwq : wq L t k = (ghI (sk L k).2 && !decide ((k : Int) = t)) := rfl
                                  rw [hwq] at hnx
                                  generalize (sk L k).1 = s at *
                                  generalize (sk L k).2 = z at *
                                  obtain ⟨u, hu⟩ : ∃ b, b = wtK L E2 t k := ⟨_, rfl⟩
                                  rw [← hu] at hnx
                                  rw [← hu]
                                  have HNX := Lib.hid hnx
                                  have hwr := hbel.out.size
                                  obtain ⟨gk, hgk⟩ : ∃ g, g = wr.heap.size := ⟨_, rfl⟩
                                  obtain ⟨W3, hW3⟩ : ∃ W, W = wr.alloc (.cells #[.string s, .int .i64 z] 63) := ⟨_, rfl⟩
                                  have hb3 : Below wr.heap.size wr W3 := by rw [hW3]; exact below_alloc wr _
                                  have K3 := Lib.hid (show Blk W3 gk 63 #[.string s, .int .i64 z] by rw [hW3, hgk]; exact Blk.new wr _ _)
                                  have R3 := Lib.hid (hR.out.below hb3)
                                  have B3 := Lib.hid (hbel.out.trans (hb3.mono hwr))
                                  have HW3 := Lib.hid hW3
                                  have HGK := Lib.hid hgk
                                  have CK := Lib.hid (rghost_any s z W3)
                                  obtain ⟨g, hg⟩ : ∃ g, g = ghI z := ⟨_, rfl⟩
                                  rw [← hg] at CK
                                  have HGH := Lib.hid hg
                                  have f0 := K3.out.cell 0 (v := .string s) rfl
                                  have f1 := K3.out.cell 1 (v := .int .i64 z) rfl
                                  clear hc0 hc1 hnx hwq hu hW3 hgk hb3 hg hR hbel
                                  go_upto_region 33 with fail
                                  rw [← HW3.out, ← HGK.out]
                                  clear hd0 hd1
                                  cases u with
                                  | true =>
                                    have HF : Hid (wtK L E2 t (k + 1) = true) := by show _ = _; rw [HNX.out, Bool.true_or]
                                    go_wp2_with fail
                                    go_roundw
                                    case rel => exact ⟨k + 1, by omega, by go_num, by rw [HF.out], R3, B3⟩
                                    case measure => simp [intOf]; omega
                                  | false =>
                                    go_wp2_with fail
                                    refine CK.out.mono ?_
                                    rintro e w6 ⟨rfl, hb6⟩
                                    have R6 := Lib.hid (R3.out.below hb6)
                                    have B6 := Lib.hid (B3.out.trans (hb6.mono B3.out.size))
                                    have e1 := R6.out.blk.cell 1 (v := .int .i64 t) rfl
                                    clear hb6 CK
                                    cases g with
                                    | false =>
                                      have HF : Hid (wtK L E2 t (k + 1) = false) := by show _ = _; rw [HNX.out, ← HGH.out]; rfl
                                      go_wp2_with fail
                                      go_roundw
                                      case rel => (repeat apply Exists.intro); exact ⟨⟨k + 1, by omega, by go_num, by rw [HF.out], R6, B6⟩, rfl⟩
                                      case measure => simp [intOf]; omega
                                    | true =>
                                      by_cases hkt : (k : Int) = t
                                      · have hi : ((k : Int) != t) = false := by simpa using hkt
                                        have HF : Hid (wtK L E2 t (k + 1) = false) := by show _ = _; rw [HNX.out, ← HGH.out, decide_eq_true hkt]; rfl
                                        clear hkt
                                        go_wp2_with fail
                                        go_roundw
                                        case rel => (repeat apply Exists.intro); exact ⟨⟨k + 1, by omega, by go_num, by rw [HF.out], R6, B6⟩, rfl⟩
                                        case measure => simp [intOf]; omega
                                      · have hi : ((k : Int) != t) = true := by simpa using hkt
                                        have HF : Hid (wtK L E2 t (k + 1) = true) := by show _ = _; rw [HNX.out, ← HGH.out, decide_eq_false hkt]; rfl
                                        clear hkt
                                        go_wp2_with fail
                                        go_roundw
                                        case rel => (repeat apply Exists.intro); exact ⟨⟨k + 1, by omega, by go_num, by rw [HF.out], R6, B6⟩, rfl⟩
                                        case measure => simp [intOf]; omega
                                · obtain rfl : n = k := by omega
                                  have HWC : Hid (wtK L E2 t n = crowd L E2) := by show _ = _; rw [HE2.out, HTK.out, HN.out]; exact waits_is L key mode
                                  obtain ⟨cr, hcr⟩ : ∃ b, b = wtK L E2 t n := ⟨_, rfl⟩
                                  rw [← hcr]
                                  rw [← hcr] at HWC
                                  have HST : Hid (startB L key mode = if s0 = 1 ∧ mode = 1 ∧ cr = true then 2 else s0) := by
                                    show _ = _
                                    rw [HS0.out, HWC.out, HE2.out]
                                    unfold startB
                                    cases backHeld L key <;> simp
                                  have HEQ : Hid (entQ L (plan0 L key mode) = decide (startB L key mode = 1)) := by
                                    show _ = _
                                    rw [HPL.out]
                                    unfold entQ
                                    dsimp only
                                    cases hb : back L key with
                                    | none => simp [oI]
                                    | some b =>
                                      have hbl := (back_some hb).1
                                      have hE : ats (each2 L key mode) b = 4 := by
                                        rcases each2_at key mode hbl with ⟨_, he⟩ | ⟨he, _⟩
                                        · exact he
                                        · exact absurd hb he
                                      simp [oI, hE]
                                  have hs01 : s0 = 0 ∨ s0 = 1 := by rw [HS0.out]; split <;> simp
                                  rename World => WB
                                  have RB := hR
                                  have BB := hbel
                                  have e2 := RB.out.blk.cell 2 (v := .int .i64 s0) rfl
                                  have p2 := RB.out.blk.frozen 2
                                  have HS01 := Lib.hid hs01
                                  clear hcr HWC hR hbel hs01
                                  by_cases s1 : s0 = 1
                                  · have q1 : (s0 == 1) = true := by simpa using s1
                                    by_cases m1 : mode = 1
                                    · have q2 : (mode == 1) = true := by simpa using m1
                                      cases cr with
                                      | true =>
                                        have HSV : Hid (startB L key mode = 2) := by show _ = _; rw [HST.out, if_pos ⟨s1, m1, rfl⟩]
                                        have RF := Lib.hid (RB.out.setS 2)
                                        have BF := Lib.hid (BB.out.setCell (p := ⟨bp, 2, none⟩) (by have := HG.out; show _ ≤ bp; omega) (.int .i64 2))
                                        have e3 := RF.out.blk.cell 2 (v := .int .i64 2) rfl
                                        clear s1 m1
                                        go_wp2_with fail
                                        go_meet
                                        exact ⟨by rw [HEQ.out, HSV.out]; rfl, by rw [HPL.out]; show RW _ _ _ _ _ _ _ _ _ _ _; dsimp only; rw [HSV.out, ← HE2.out, ← HTK.out]; exact RF.out, BF⟩
                                      | false =>
                                        have HSV : Hid (startB L key mode = s0) := by show _ = _; rw [HST.out, if_neg (fun h => by cases h.2.2)]
                                        have HDE : Hid (decide (s0 = 1) = true) := decide_eq_true s1
                                        clear s1 m1
                                        go_wp2_with fail
                                        go_meet
                                        exact ⟨by rw [HEQ.out, HSV.out]; rw [HDE.out], by rw [HPL.out]; show RW _ _ _ _ _ _ _ _ _ _ _; dsimp only; rw [HSV.out, ← HE2.out, ← HTK.out]; exact RB.out, BB⟩
                                    · have q2 : (mode == 1) = false := by simpa using m1
                                      have HSV : Hid (startB L key mode = s0) := by show _ = _; rw [HST.out, if_neg (fun h => m1 h.2.1)]
                                      have HDE : Hid (decide (s0 = 1) = true) := decide_eq_true s1
                                      clear s1 m1
                                      go_wp2_with fail
                                      go_meet
                                      exact ⟨by rw [HEQ.out, HSV.out]; rw [HDE.out], by rw [HPL.out]; show RW _ _ _ _ _ _ _ _ _ _ _; dsimp only; rw [HSV.out, ← HE2.out, ← HTK.out]; exact RB.out, BB⟩
                                  · have q1 : (s0 == 1) = false := by simpa using s1
                                    have HSV : Hid (startB L key mode = s0) := by show _ = _; rw [HST.out, if_neg (fun h => s1 h.1)]
                                    have HDE : Hid (decide (s0 = 1) = false) := decide_eq_false s1
                                    clear s1
                                    go_wp2_with fail
                                    go_meet
                                    exact ⟨by rw [HEQ.out, HSV.out]; rw [HDE.out], by rw [HPL.out]; show RW _ _ _ _ _ _ _ _ _ _ _; dsimp only; rw [HSV.out, ← HE2.out, ← HTK.out]; exact RB.out, BB⟩
        case rest =>
          as_aux_lemma =>
            obtain ⟨rfl, R6, B6⟩ := hcut
            rename World => W6
            obtain ⟨E, tk, st, hE⟩ : ∃ E tk st, (⟨E, tk, st⟩ : Pl) = plan0 L key mode := ⟨(plan0 L key mode).each, _, _, rfl⟩
            rw [← hE] at R6
            rw [← hE]
            have HE := Lib.hid hE
            obtain ⟨en, hen⟩ : ∃ b, b = entQ L ⟨E, tk, st⟩ := ⟨_, rfl⟩
            rw [← hen]
            have HEN := Lib.hid hen
            have hr6 : RW W6 rb bp gb n AE ce E tk st (.slice none 0 0) := R6.out
            have R6 := Lib.hid hr6
            clear hE hen hr6 R5 B5 A5
            cases en with
            | true =>
              have HRL : Hid (W6.ownsRow gb 3 1 (.slice none 0 0) (rel L ⟨E, tk, st⟩).length (nv (rel L ⟨E, tk, st⟩))) := by
                show World.ownsRow _ _ _ _ _ _ _
                unfold rel
                rw [if_pos HEN.out.symm]
                exact World.ownsRow_nil _ _ _ _
              obtain ⟨Z, hZ⟩ : ∃ W, W = W6 := ⟨_, rfl⟩
              rw [← hZ]
              rw [← hZ] at R6 B6 HRL
              have RZ := R6
              have BZ := B6
              clear hZ
              have q0 := RZ.out.blk.cell 0 (v := .slice AE n ce) rfl
              have q1 := RZ.out.blk.cell 1 (v := .int .i64 tk) rfl
              have q2 := RZ.out.blk.cell 2 (v := .int .i64 st) rfl
              have q3 := RZ.out.blk.cell 3 (v := .slice none 0 0) rfl
              have e0 := RZ.out.res.cell 0 (v := .slice none 0 0) rfl
              have e1 := RZ.out.res.cell 1 (v := .int .i64 0) rfl
              have e2 := RZ.out.res.cell 2 (v := .int .i64 0) rfl
              have e3 := RZ.out.res.cell 3 (v := .slice none 0 0) rfl
              have p0 := RZ.out.res.frozen 0
              have p1 := RZ.out.res.frozen 1
              have p2 := RZ.out.res.frozen 2
              have p3 := RZ.out.res.frozen 3
              have hnb : bp ≠ rb := by have := RZ.out.l1; omega
              go_wp2
              obtain ⟨V, hV⟩ : ∃ V, V = (((Z.setCell ⟨rb, 0, none⟩ (.slice AE n ce)).setCell ⟨rb, 1, none⟩ (.int .i64 tk)).setCell ⟨rb, 2, none⟩ (.int .i64 st)).setCell ⟨rb, 3, none⟩ (.slice none 0 0) := ⟨_, rfl⟩
              rw [← hV]
              have KV : Blk V rb 52 #[.slice AE n ce, .int .i64 tk, .int .i64 st, .slice none 0 0] := by rw [hV]; exact sz4 RZ.out.res
              have BV : Beside (fun g => g = rb) Z V := by rw [hV]; exact ((((Beside.refl (fun g => g = rb) Z).set (.inl rfl) 0 _).set (.inl rfl) 1 _).set (.inl rfl) 2 _).set (.inl rfl) 3 _
              have BB : Below w.heap.size w V := BV.below BZ.out BZ.out.size (fun g hg => by have := HG.out; omega)
              have O1 := BV.keepsOwn RZ.out.row (fun q hq e => by have := RZ.out.from' q hq; have := RZ.out.l1; have := RZ.out.l2; omega)
              have O2 := BV.keepsOwn HRL.out (fun q hq e => by have := own_from HRL.out q hq; have := RZ.out.l1; have := RZ.out.l2; omega)
              clear hV
              exact bodyPost_ret (results_mid rfl _ _ rb 0 [.slice AE n ce, .int .i64 tk, .int .i64 st, .slice none 0 0] _ rfl (blk_rangeS KV) Try.underlying52 rfl (by kernel_rfl)) rfl ⟨_, _, by rw [← HE.out], by rw [← HE.out]; exact own_mono O1 (by have := HG.out; omega), by rw [← HE.out]; exact own_mono O2 (by have := HG.out; omega), BB⟩
            | false =>
              have HRL0 : Hid (rel L ⟨E, tk, st⟩ = wh n (relQ L E)) := by
                show _ = _
                unfold rel
                rw [if_neg (by rw [← HEN.out]; simp), ← HN.out]
              obtain ⟨g2, hg2⟩ : ∃ b, b = W6.heap.size := ⟨_, rfl⟩
              have HG2 := Lib.hid hg2
              have HLT : Hid (∀ q, (Value.slice AE n ce).ownBlock = some q → q < g2) := fun q hq => by have := (R6.out.row.lt q hq).2; omega
              have HLB : Hid (bp < g2) := by have := R6.out.blk.lt; show _ < _; omega
              have HGW : Hid (w.heap.size ≤ g2 ∧ gb ≤ g2) := by have h7 := R6.out.blk.lt; have h8 := R6.out.l2; have h9 := HG.out; constructor <;> omega
              clear hg2
              go_upto_region 40 with fail
              go_loopw [178] (fun i wr => ∃ (k : Nat) (v : Value), k ≤ n ∧ i = .int .i64 k ∧ Hid (RW wr rb bp gb n AE ce E tk st v) ∧ Hid (wr.ownsRow g2 3 1 v (wh k (relQ L E)).length (nv (wh k (relQ L E)))) ∧ Hid (Below w.heap.size w wr) ∧ Hid (g2 ≤ wr.heap.size)) (fun i _ => n - (intOf i).toNat)
              case atStart => exact ⟨0, .slice none 0 0, Nat.zero_le _, rfl, R6, World.ownsRow_nil _ _ _ _, B6, Lib.hid (Nat.le_of_eq HG2.out)⟩
              case round =>
                obtain ⟨k, v, hk, rfl, hR, hown, hbel, HWR⟩ := hrel
                by_cases hlt : k < n
                · obtain ⟨b1, o1, rfl, hb1, hc0, hc1⟩ := at_sk HA.out (k := k) (by have := HN.out; omega)
                  obtain ⟨eb, rfl⟩ := row_addr hR.out.row (by omega)
                  obtain ⟨AR, cR, rfl, hcR, hmR⟩ := own_slice hown.out
                  have hd0 := (hbel.out.cell (p := ⟨b1, o1 + k * 2, none⟩) hb1).trans hc0
                  have hd1 := (hbel.out.cell (p := ⟨b1, o1 + k * 2 + 1, none⟩) hb1).trans hc1
                  have hnx := wh_next k (relQ L E)
                  have hrq : relQ L E k = (decide (ats E k = 2) || (decide (ats E k = 0) && decide ((sk L k).2 = 4))) := rfl
                  have hgl := wh_le k (relQ L E)
                  rw [hrq] at hnx
                  obtain ⟨WL, hWL⟩ : ∃ l, l = wh k (relQ L E) := ⟨_, rfl⟩
                  rw [← hWL] at hnx hgl hown hR
                  have hxk := hR.out.at' (i := k) hlt
                  generalize (sk L k).1 = s at *
                  generalize (sk L k).2 = z at *
                  generalize ats E k = x at *
                  have HNX := Lib.hid hnx
                  have hwr := hbel.out.size
                  obtain ⟨gk, hgk⟩ : ∃ g, g = wr.heap.size := ⟨_, rfl⟩
                  obtain ⟨W3, hW3⟩ : ∃ W, W = wr.alloc (.cells #[.string s, .int .i64 z] 63) := ⟨_, rfl⟩
                  have hb3 : Below wr.heap.size wr W3 := by rw [hW3]; exact below_alloc wr _
                  have K3 := Lib.hid (show Blk W3 gk 63 #[.string s, .int .i64 z] by rw [hW3, hgk]; exact Blk.new wr _ _)
                  have R3 := Lib.hid (hR.out.below hb3)
                  have O3 := Lib.hid (own_below hown.out hb3)
                  have B3 := Lib.hid (hbel.out.trans (hb3.mono hwr))
                  have HXK : Hid (W3.cell? ⟨eb, k, none⟩ = some (.int .i64 x)) := by
                    show _ = _
                    have hl := (hR.out.row.lt eb rfl).2
                    exact (hb3.cell (p := ⟨eb, k, none⟩) hl).trans hxk
                  have HW3 := Lib.hid hW3
                  have HGK := Lib.hid hgk
                  have HW33 : Hid (g2 ≤ W3.heap.size) := by have h8 := HW3.out; have h9 := HWR.out; show _ ≤ _; rw [h8, size_alloc]; omega
                  clear hc0 hc1 hnx hrq hWL hxk hW3 hgk hb3 hR hown hbel
                  go_upto_region 42 with fail
                  rw [← HW3.out, ← HGK.out]
                  clear hd0 hd1
                  have f1 := K3.out.cell 1 (v := .int .i64 z) rfl
                  have e0 := R3.out.blk.cell 0 (v := .slice (some ⟨eb, 0, none⟩) n ce) rfl
                  have ex := HXK.out
                  by_cases x2 : x = 2
                  · have q2 : (x == 2) = true := by simpa using x2
                    have HNY : Hid (wh (k + 1) (relQ L E) = WL ++ [k]) := by show _ = _; rw [HNX.out, decide_eq_true x2]; rfl
                    clear x2
                    obtain ⟨v1, w1, hrun, hown1, hgrow1, _, hat1⟩ := run_append_own_at (P := Try.prog) (W3.alloc (.cells #[.int .i64 (k : Int)] 3)) g2 29 29 3 i0 (.int .i64 0) 1 8 Try.underlying29 hi hz0 hz1 hz2 rfl (by decide) _ _ _ (O3.out.alloc (.cells #[.int .i64 (k : Int)] 3)) ⟨W3.heap.size, 0, none⟩ 1 1 [.int .i64 (k : Int)] rfl (cells_new' _ _ _ _ rfl _ rfl) (fun u hu => by simp at hu; subst hu; rfl) (by unfold maxLen; omega) (by omega) (by rw [size_alloc]; have h9 := HW33.out; omega)
                    obtain ⟨A1, c1, rfl, hc1, hm1⟩ := own_slice hown1
                    have R4 := Lib.hid ((R3.out.below (below_alloc W3 (.cells #[.int .i64 (k : Int)] 3))).grownR hgrow1 (fun q hq => by
                      right
                      have h7 := own_from O3.out q hq
                      refine ⟨by have := HGW.out.2; omega, fun e => by have := HLT.out q e; omega⟩))
                    have RF := Lib.hid (R4.out.setR (.slice A1 (WL.length + 1) c1))
                    have OF : Hid ((w1.setCell ⟨bp, 3, none⟩ (.slice A1 (WL.length + 1) c1)).ownsRow g2 3 1 (.slice A1 (WL.length + 1) c1) (wh (k + 1) (relQ L E)).length (nv (wh (k + 1) (relQ L E)))) := by
                      show World.ownsRow _ _ _ _ _ _ _
                      rw [HNY.out, List.length_append, nv_app]
                      exact hown1.kept (grown_set w1 ⟨bp, 3, none⟩ _) (.inr (by intro e; have h7 := own_from hown1 bp e; have h8 := HLB.out; omega))
                    have B4 := Lib.hid (Below.grown (B3.out.alloc B3.out.size (.cells #[.int .i64 (k : Int)] 3)) hgrow1 (by rw [size_alloc]; have := B3.out.size; omega) (fun j hj => by have := own_from O3.out j hj; have := HGW.out; omega))
                    have BF := Lib.hid (B4.out.setCell (p := ⟨bp, 3, none⟩) (by have := HG.out; show _ ≤ bp; omega) (.slice A1 (WL.length + 1) c1))
                    have HWF : Hid (g2 ≤ (w1.setCell ⟨bp, 3, none⟩ (.slice A1 (WL.length + 1) c1)).heap.size) := by have h7 := hgrow1.size; have h8 := HW33.out; rw [size_alloc] at h7; show _ ≤ _; simp; omega
                    have e3 := R3.out.blk.cell 3 (v := .slice AR WL.length cR) rfl
                    have e4 := R4.out.blk.cell 3 (v := .slice AR WL.length cR) rfl
                    have p4 := R4.out.blk.frozen 3
                    clear hown1 hgrow1 hat1
                    go_wp2_with fail
                    clear hrun
                    go_roundw
                    case rel => exact ⟨k + 1, .slice A1 (WL.length + 1) c1, by omega, by go_num, RF, OF, BF, HWF⟩
                    case measure => simp [intOf]; omega
                  · have q2 : (x == 2) = false := by simpa using x2
                    by_cases x0 : x = 0
                    · have q0 : (x == 0) = true := by simpa using x0
                      by_cases z4 : z = 4
                      · have q4 : (z == 4) = true := by simpa using z4
                        have HNY : Hid (wh (k + 1) (relQ L E) = WL ++ [k]) := by show _ = _; rw [HNX.out, decide_eq_true x0, decide_eq_true z4]; simp
                        clear x2 x0 z4
                        obtain ⟨v1, w1, hrun, hown1, hgrow1, _, hat1⟩ := run_append_own_at (P := Try.prog) (W3.alloc (.cells #[.int .i64 (k : Int)] 3)) g2 29 29 3 i0 (.int .i64 0) 1 8 Try.underlying29 hi hz0 hz1 hz2 rfl (by decide) _ _ _ (O3.out.alloc (.cells #[.int .i64 (k : Int)] 3)) ⟨W3.heap.size, 0, none⟩ 1 1 [.int .i64 (k : Int)] rfl (cells_new' _ _ _ _ rfl _ rfl) (fun u hu => by simp at hu; subst hu; rfl) (by unfold maxLen; omega) (by omega) (by rw [size_alloc]; have h9 := HW33.out; omega)
                        obtain ⟨A1, c1, rfl, hc1, hm1⟩ := own_slice hown1
                        have R4 := Lib.hid ((R3.out.below (below_alloc W3 (.cells #[.int .i64 (k : Int)] 3))).grownR hgrow1 (fun q hq => by
                          right
                          have h7 := own_from O3.out q hq
                          refine ⟨by have := HGW.out.2; omega, fun e => by have := HLT.out q e; omega⟩))
                        have RF := Lib.hid (R4.out.setR (.slice A1 (WL.length + 1) c1))
                        have OF : Hid ((w1.setCell ⟨bp, 3, none⟩ (.slice A1 (WL.length + 1) c1)).ownsRow g2 3 1 (.slice A1 (WL.length + 1) c1) (wh (k + 1) (relQ L E)).length (nv (wh (k + 1) (relQ L E)))) := by
                          show World.ownsRow _ _ _ _ _ _ _
                          rw [HNY.out, List.length_append, nv_app]
                          exact hown1.kept (grown_set w1 ⟨bp, 3, none⟩ _) (.inr (by intro e; have h7 := own_from hown1 bp e; have h8 := HLB.out; omega))
                        have B4 := Lib.hid (Below.grown (B3.out.alloc B3.out.size (.cells #[.int .i64 (k : Int)] 3)) hgrow1 (by rw [size_alloc]; have := B3.out.size; omega) (fun j hj => by have := own_from O3.out j hj; have := HGW.out; omega))
                        have BF := Lib.hid (B4.out.setCell (p := ⟨bp, 3, none⟩) (by have := HG.out; show _ ≤ bp; omega) (.slice A1 (WL.length + 1) c1))
                        have HWF : Hid (g2 ≤ (w1.setCell ⟨bp, 3, none⟩ (.slice A1 (WL.length + 1) c1)).heap.size) := by have h7 := hgrow1.size; have h8 := HW33.out; rw [size_alloc] at h7; show _ ≤ _; simp; omega
                        have e3 := R3.out.blk.cell 3 (v := .slice AR WL.length cR) rfl
                        have e4 := R4.out.blk.cell 3 (v := .slice AR WL.length cR) rfl
                        have p4 := R4.out.blk.frozen 3
                        clear hown1 hgrow1 hat1
                        go_wp2_with fail
                        clear hrun
                        go_roundw
                        case rel => exact ⟨k + 1, .slice A1 (WL.length + 1) c1, by omega, by go_num, RF, OF, BF, HWF⟩
                        case measure => simp [intOf]; omega
                      · have q4 : (z == 4) = false := by simpa using z4
                        have HNY : Hid (wh (k + 1) (relQ L E) = WL) := by show _ = _; rw [HNX.out, decide_eq_false x2, decide_eq_false z4]; simp
                        clear x2 x0 z4
                        go_wp2_with fail
                        go_roundw
                        case rel => exact ⟨k + 1, .slice AR WL.length cR, by omega, by go_num, R3, by rw [HNY.out]; exact O3, B3, HW33⟩
                        case measure => simp [intOf]; omega
                    · have q0 : (x == 0) = false := by simpa using x0
                      have HNY : Hid (wh (k + 1) (relQ L E) = WL) := by show _ = _; rw [HNX.out, decide_eq_false x2, decide_eq_false x0]; simp
                      clear x2 x0
                      go_wp2_with fail
                      go_roundw
                      case rel => exact ⟨k + 1, .slice AR WL.length cR, by omega, by go_num, R3, by rw [HNY.out]; exact O3, B3, HW33⟩
                      case measure => simp [intOf]; omega
                · obtain rfl : n = k := by omega
                  obtain ⟨AR, cR, rfl, hcR, hmR⟩ := own_slice hown.out
                  have HRL : Hid (wr.ownsRow gb 3 1 (.slice AR (wh n (relQ L E)).length cR) (rel L ⟨E, tk, st⟩).length (nv (rel L ⟨E, tk, st⟩))) := by
                    show World.ownsRow _ _ _ _ _ _ _
                    rw [HRL0.out]
                    exact own_mono hown.out HGW.out.2
                  have hR' : RW wr rb bp gb n AE ce E tk st (.slice AR (wh n (relQ L E)).length cR) := hR.out
                  have HRL' : wr.ownsRow gb 3 1 (.slice AR (wh n (relQ L E)).length cR) (rel L ⟨E, tk, st⟩).length (nv (rel L ⟨E, tk, st⟩)) := HRL.out
                  clear hown hR HRL hcR hmR
                  generalize (wh n (relQ L E)).length = LN at hR' HRL'
                  rename World => Z
                  have RZ := Lib.hid hR'
                  have HRL := Lib.hid HRL'
                  have BZ := hbel
                  clear hR' HRL' hbel R6 B6 HRL0 HLT HLB HGW HG2
                  go_upto_region 45 with fail
                  have q0 := RZ.out.blk.cell 0 (v := .slice AE n ce) rfl
                  have q1 := RZ.out.blk.cell 1 (v := .int .i64 tk) rfl
                  have q2 := RZ.out.blk.cell 2 (v := .int .i64 st) rfl
                  have q3 := RZ.out.blk.cell 3 (v := .slice AR LN cR) rfl
                  have e0 := RZ.out.res.cell 0 (v := .slice none 0 0) rfl
                  have e1 := RZ.out.res.cell 1 (v := .int .i64 0) rfl
                  have e2 := RZ.out.res.cell 2 (v := .int .i64 0) rfl
                  have e3 := RZ.out.res.cell 3 (v := .slice none 0 0) rfl
                  have p0 := RZ.out.res.frozen 0
                  have p1 := RZ.out.res.frozen 1
                  have p2 := RZ.out.res.frozen 2
                  have p3 := RZ.out.res.frozen 3
                  have hnb : bp ≠ rb := by have := RZ.out.l1; omega
                  go_wp2
                  obtain ⟨V, hV⟩ : ∃ V, V = (((Z.setCell ⟨rb, 0, none⟩ (.slice AE n ce)).setCell ⟨rb, 1, none⟩ (.int .i64 tk)).setCell ⟨rb, 2, none⟩ (.int .i64 st)).setCell ⟨rb, 3, none⟩ (.slice AR LN cR) := ⟨_, rfl⟩
                  rw [← hV]
                  have KV : Blk V rb 52 #[.slice AE n ce, .int .i64 tk, .int .i64 st, .slice AR LN cR] := by rw [hV]; exact sz4 RZ.out.res
                  have BV : Beside (fun g => g = rb) Z V := by rw [hV]; exact ((((Beside.refl (fun g => g = rb) Z).set (.inl rfl) 0 _).set (.inl rfl) 1 _).set (.inl rfl) 2 _).set (.inl rfl) 3 _
                  have BB : Below w.heap.size w V := BV.below BZ.out BZ.out.size (fun g hg => by have := HG.out; omega)
                  have O1 := BV.keepsOwn RZ.out.row (fun q hq e => by have := RZ.out.from' q hq; have := RZ.out.l1; have := RZ.out.l2; omega)
                  have O2 := BV.keepsOwn HRL.out (fun q hq e => by have := own_from HRL.out q hq; have := RZ.out.l1; have := RZ.out.l2; omega)
                  clear hV
                  exact bodyPost_ret (results_mid rfl _ _ rb 0 [.slice AE n ce, .int .i64 tk, .int .i64 st, .slice AR LN cR] _ rfl (blk_rangeS KV) Try.underlying52 rfl (by kernel_rfl)) rfl ⟨_, _, by rw [← HE.out], by rw [← HE.out]; exact own_mono O1 (by have := HG.out; omega), by rw [← HE.out]; exact own_mono O2 (by have := HG.out; omega), BB⟩
end Go.Proofs.Ytfapghekakdpgaa
