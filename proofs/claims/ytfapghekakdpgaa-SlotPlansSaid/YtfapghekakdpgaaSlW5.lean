/- Contracts of slot's Of and Next. -/
import Derived.Test.YtfapghekakdpgaaSlW4
namespace Go.Proofs.Ytfapghekakdpgaa
open Go.RowKit Gr Go.Maps Sl
set_option linter.unusedVariables false
set_option linter.unusedSimpArgs false
theorem Sl.plan0_take (L : List Sk) (key : ByteArray) (mode : Int) : (plan0 L key mode).take < (L.length : Int) ∨ (plan0 L key mode).take < 0 := by
  unfold plan0
  cases hs : stay L key with
  | some a =>
    left
    cases hc : cur L with
    | none => unfold stay at hs; rw [hc] at hs; cases hs
    | some b =>
      have hs2 : stay L key = if key ≠ ByteArray.empty ∧ (sk L b).1 = key then some b else none := by unfold stay; rw [hc]
      rw [hs2] at hs
      split at hs
      · injection hs with hs
        subst hs
        have := (cur_some hc).1
        show (b : Int) < _
        omega
      · cases hs
  | none =>
    show (repl L key mode).take < _ ∨ (repl L key mode).take < 0
    unfold repl
    split
    · right; show (-2 : Int) < 0; decide
    · show oI (back L key) < _ ∨ oI (back L key) < 0
      cases hb : back L key with
      | none => right; show (-1 : Int) < 0; decide
      | some b => left; have := (back_some hb).1; show (b : Int) < _; omega
theorem sz4 {w : World} {g : Nat} {t : TypeId} {y0 y1 y2 y3 x0 x1 x2 x3 : Value} (h : Blk w g t #[y0, y1, y2, y3]) : Blk ((((w.setCell ⟨g, 0, none⟩ x0).setCell ⟨g, 1, none⟩ x1).setCell ⟨g, 2, none⟩ x2).setCell ⟨g, 3, none⟩ x3) g t #[x0, x1, x2, x3] := (((h.set 0 x0).set 1 x1).set 2 x2).set 3 x3
def SofPost (L : List Sk) (key : ByteArray) (mode : Int) (w : World) (n : Nat) (e : Ending) (w' : World) : Prop := ∃ v1 v2, e = .returned (.agg #[v1, .int .i64 (plan0 L key mode).take, .int .i64 (plan0 L key mode).start, v2]) ∧ w'.ownsRow w.heap.size 3 1 v1 n (iv (plan0 L key mode).each) ∧ w'.ownsRow w.heap.size 3 1 v2 (rel L (plan0 L key mode)).length (nv (rel L (plan0 L key mode))) ∧ Below w.heap.size w w'
set_option maxHeartbeats 4000000 in
set_option maxRecDepth 100000 in
theorem sof_00 (a : Nat) (A : Option Addr) (n c : Nat) (L : List Sk) (key : ByteArray) (mode : Int) (w : World) (hn : n = L.length) (h1 : n ≤ 1000) (ha : At w A (scs L)) (hcur : cur L = none) (hent : entQ L (plan0 L key mode) = false) :
    Calls Try.prog 26 #[.slice A n c, .string key, .int .i64 mode] w fun e w' => SofPost L key mode w n e w' := by
  have hst : stay L key = none := by unfold stay; rw [hcur]
  have hpl : plan0 L key mode = repl L key mode := by unfold plan0; rw [hst]
  have htk0 := plan0_take L key mode
  have hlen0 := plan0_len L key mode
  obtain ⟨U, hU⟩ : ∃ W, W = (w.alloc (.cells #[.slice A n c] 45)).alloc (.cells #[.slice none 0 0, .int .i64 0, .int .i64 0, .slice none 0 0] 50) := ⟨_, rfl⟩
  have hbU : Below w.heap.size w U := by rw [hU]; exact (below_alloc w _).alloc (by simp) _
  have K0 := Lib.hid (show Blk U w.heap.size 45 #[.slice A n c] by rw [hU]; exact (Blk.new w _ _).alloc _)
  have K1 := Lib.hid (show Blk U (w.heap.size + 1) 50 #[.slice none 0 0, .int .i64 0, .int .i64 0, .slice none 0 0] by rw [hU]; exact Blk.new' (w.alloc _) _ _ _ (by simp))
  have HUS : Hid (U.heap.size = w.heap.size + 2) := by show _ = _; rw [hU]; simp
  obtain ⟨gb, hgb⟩ : ∃ b, b = U.heap.size := ⟨_, rfl⟩
  obtain ⟨i0, hi, hz0, hz1, hz2⟩ := info_parts infoInt
  obtain ⟨w2, hmk, hrow, hgm⟩ := run_makeSlice_full (P := Try.prog) U U.heap.size 29 3 i0 (.int .i64 0) 1 Try.underlying29 hi hz0 hz1 .i64 .i64 n (by omega) (by rw [hz2]; omega) (by unfold maxLen; omega) (Nat.le_refl _)
  obtain ⟨eb, heb⟩ : ∃ b, b = U.heap.size := ⟨_, rfl⟩
  obtain ⟨bp, hbp⟩ : ∃ b, b = w2.heap.size := ⟨_, rfl⟩
  rw [← hgb] at hrow
  have hrow' : w2.ownsRow gb 3 1 (.slice (some ⟨eb, 0, none⟩) n n) n (iv (zs n)) := by rw [iv_zs, heb, ← hgb]; exact hrow
  obtain ⟨W3, hW3⟩ : ∃ W, W = w2.alloc (.cells #[.slice (some ⟨eb, 0, none⟩) n n, .int .i64 (-2), .int .i64 0, .slice none 0 0] 50) := ⟨_, rfl⟩
  have hb2 : Below U.heap.size U w2 := (Below.refl _ _).grown hgm (Nat.le_refl _) (fun q hq => nomatch hq)
  have hb3 : Below U.heap.size U W3 := by rw [hW3]; exact hb2.alloc hb2.size _
  have P3 : Hid (PW W3 bp eb gb n (zs n) (-2) 0 (.slice none 0 0)) := ⟨by rw [hW3, hbp]; exact Blk.new w2 _ _, by rw [hW3]; exact hrow'.alloc _, zs_len n⟩
  have HB03 := Lib.hid hb3
  have HA0 := Lib.hid (ha.below hbU)
  have HN := Lib.hid hn
  have HBWU := Lib.hid hbU
  have HBP := Lib.hid (show w.heap.size + 2 ≤ bp by have h5 := hb2.size; have h6 := HUS.out; omega)
  have HBP2 := Lib.hid (show U.heap.size ≤ bp by have h5 := hb2.size; omega)
  have HBAD : Hid (∀ g, badP bp eb g → U.heap.size ≤ g) := by
    have h5 := hb2.size
    rintro g (e | e) <;> omega
  have C1 := Lib.hid (current_any A n c L W3 hn (by omega) (HA0.out.below hb3))
  have HU := Lib.hid hU
  have HW3 := Lib.hid hW3
  have HEB := Lib.hid heb
  have HBPE := Lib.hid hbp
  have HGB := Lib.hid hgb
  have r0 := K0.out.cell 0 (v := .slice A n c) rfl
  have r03 := (K0.out.below hb3).cell 0 (v := .slice A n c) rfl
  obtain ⟨E, tk, st, hE⟩ : ∃ E tk st, (⟨E, tk, st⟩ : Pl) = repl L key mode := ⟨(repl L key mode).each, _, _, rfl⟩
  rw [← hE] at hpl
  rw [hpl] at htk0 hlen0 hent
  have htk : tk < n := by
    replace htk0 : tk < (L.length : Int) ∨ tk < 0 := htk0
    omega
  have HPL := Lib.hid hpl
  have HEN := Lib.hid hent
  have HEE := Lib.hid hE
  have HCU : Hid (oI (cur L) = -1) := by show _ = _; rw [hcur]; rfl
  clear hU hbU hn ha hgb heb hbp hrow hrow' hgm hW3 hb2 hb3 hst hpl htk0 hlen0 hent hE hcur
  go_enter Try.func26, Try.ntmps26
  go_upto_region 1 with fail
  rw [← HU.out]
  go_upto_region 2 with fail
  clear hmk
  rw [← HEB.out, ← HBPE.out, ← HW3.out]
  clear r0
  go_wp2_with fail
  refine C1.out.mono ?_
  rintro e9 W4 ⟨rfl, hb4⟩
  rw [HCU.out]
  have P4 := Lib.hid (P3.out.below hb4)
  have B4 := Lib.hid (HB03.out.trans (hb4.mono HB03.out.size))
  have r04 := (K0.out.below B4.out).cell 0 (v := .slice A n c) rfl
  clear r03 C1
  go_wp2_with fail
  have CR := replace_any bp eb gb _ n c L key mode (.slice none 0 0) U W4 HN.out h1 HA0.out B4.out P4.out HBP2.out (HBAD.out _ (.inr rfl))
  rw [HCU.out] at CR
  refine CR.mono ?_
  rintro e9 X ⟨rfl, px, bx⟩
  rw [← HEE.out] at px
  have PX : Hid (PW X bp eb gb n E tk st (.slice none 0 0)) := px
  have BX := Lib.hid ((Beside.ofBelow hb4).trans bx)
  clear px bx hb4 r04 CR
  have BWX := Lib.hid (BX.out.below HB03.out HB03.out.size HBAD.out)
  have HAX := Lib.hid (HA0.out.below BWX.out)
  have r0 := (K0.out.below BWX.out).cell 0 (v := .slice A n c) rfl
  go_wp2_with fail
  refine (entering0_any bp eb gb A n c L E tk st _ X HN.out (by omega) HAX.out PX.out htk).mono ?_
  rintro e9 Y ⟨rfl, hb⟩
  rw [HEN.out]
  have PY := Lib.hid (PX.out.below hb)
  have BWY := Lib.hid (BWX.out.trans (hb.mono BWX.out.size))
  clear hb PX BX BWX HAX r0
  have r0 := (K0.out.below BWY.out).cell 0 (v := .slice A n c) rfl
  have HAY := Lib.hid (HA0.out.below BWY.out)
  have KOY := Lib.hid (K0.out.below BWY.out)
  go_wp2_with fail
  refine (where_sof n bp w.heap.size (relQ L E) Y (by omega) (fun W i hi hb => sof1_any i bp w.heap.size eb A n c L E gb tk st _ W hi HN.out ((KOY.out.below hb).cell 0 rfl) (PY.out.below hb) (HAY.out.below hb))).mono ?_
  rintro e9 Y2 ⟨v5, rfl, ho5, hb5⟩
  obtain ⟨A5, c5, rfl, _, _⟩ := own_slice ho5
  have PY2 := Lib.hid (PY.out.below hb5)
  have BW2 := Lib.hid (BWY.out.trans (hb5.mono BWY.out.size))
  have hsY := Lib.hid (show gb ≤ Y.heap.size by have h1 := BWY.out.size; have h2 := HGB.out; omega)
  have HO5 := Lib.hid (own_mono ho5 hsY.out)
  have HNB := Lib.hid (fun q (hq : (Value.slice A5 (wh n (relQ L E)).length c5).ownBlock = some q) => (own_from ho5 q hq))
  have hbpY : bp < Y.heap.size := PY.out.blk.lt
  have hebY : eb < Y.heap.size := (PY.out.row.lt _ rfl).2
  clear ho5 hb5 PY BWY r0 HAY KOY
  have e3 := PY2.out.blk.cell 3 (v := .slice none 0 0) rfl
  have p3 := PY2.out.blk.frozen 3
  go_upto_region 8 with fail
  obtain ⟨Z, hZ⟩ : ∃ W, W = Y2.setCell ⟨bp, 3, none⟩ (.slice A5 (wh n (relQ L E)).length c5) := ⟨_, rfl⟩
  rw [← hZ]
  have hbs : Beside (fun g => g = bp) Y2 Z := by rw [hZ]; exact (Beside.refl (fun g => g = bp) Y2).set (.inl rfl) 3 _
  have KP := Lib.hid (show Blk Z bp 50 #[.slice (some ⟨eb, 0, none⟩) n n, .int .i64 tk, .int .i64 st, .slice A5 (wh n (relQ L E)).length c5] by rw [hZ]; exact PY2.out.blk.set 3 _)
  have HB0Z := Lib.hid (hbs.below BW2.out BW2.out.size (fun g hg => by subst hg; exact HBP2.out))
  have HRE := Lib.hid (hbs.keepsOwn PY2.out.row (fun q hq e => by injection hq with hq; simp only at hq; exact PY2.out.ne (hq.trans e)))
  have HRL : Hid (Z.ownsRow gb 3 1 (.slice A5 (wh n (relQ L E)).length c5) (rel L ⟨E, tk, st⟩).length (nv (rel L ⟨E, tk, st⟩))) := by
    show World.ownsRow _ _ _ _ _ _ _
    unfold rel
    rw [if_neg (by rw [HEN.out]; simp), show L.length = n from HN.out.symm]
    exact hbs.keepsOwn HO5.out (fun q hq e => by have := HNB.out q hq; omega)
  have KR := Lib.hid (K1.out.below HB0Z.out)
  have hne : bp ≠ w.heap.size + 1 := by have := HBP.out; omega
  clear hZ hbs e3 p3 PY2 HO5
  have q0 := KP.out.cell 0 (v := .slice (some ⟨eb, 0, none⟩) n n) rfl
  have q1 := KP.out.cell 1 (v := .int .i64 tk) rfl
  have q2 := KP.out.cell 2 (v := .int .i64 st) rfl
  have q3 := KP.out.cell 3 (v := .slice A5 (wh n (relQ L E)).length c5) rfl
  have e0 := KR.out.cell 0 (v := .slice none 0 0) rfl
  have e1 := KR.out.cell 1 (v := .int .i64 0) rfl
  have e2 := KR.out.cell 2 (v := .int .i64 0) rfl
  have e3 := KR.out.cell 3 (v := .slice none 0 0) rfl
  have p0 := KR.out.frozen 0
  have p1 := KR.out.frozen 1
  have p2 := KR.out.frozen 2
  have p3 := KR.out.frozen 3
  go_wp2
  obtain ⟨V, hV⟩ : ∃ V, V = (((Z.setCell ⟨w.heap.size + 1, 0, none⟩ (.slice (some ⟨eb, 0, none⟩) n n)).setCell ⟨w.heap.size + 1, 1, none⟩ (.int .i64 tk)).setCell ⟨w.heap.size + 1, 2, none⟩ (.int .i64 st)).setCell ⟨w.heap.size + 1, 3, none⟩ (.slice A5 (wh n (relQ L E)).length c5) := ⟨_, rfl⟩
  rw [← hV]
  have KV : Blk V (w.heap.size + 1) 50 #[.slice (some ⟨eb, 0, none⟩) n n, .int .i64 tk, .int .i64 st, .slice A5 (wh n (relQ L E)).length c5] := by rw [hV]; exact sz4 KR.out
  have BV : Beside (fun g => g = w.heap.size + 1) Z V := by rw [hV]; exact ((((Beside.refl (fun g => g = w.heap.size + 1) Z).set (.inl rfl) 0 _).set (.inl rfl) 1 _).set (.inl rfl) 2 _).set (.inl rfl) 3 _
  have hgW : w.heap.size + 1 < gb := by have h8 := HUS.out; have h9 := HGB.out; omega
  have BB : Below w.heap.size w V := BV.below (HBWU.out.trans (HB0Z.out.mono HBWU.out.size)) (Nat.le_trans HBWU.out.size HB0Z.out.size) (fun g hg => by omega)
  have O1 := BV.keepsOwn HRE.out (fun q hq e => by have := own_from HRE.out q hq; omega)
  have O2 := BV.keepsOwn HRL.out (fun q hq e => by have := own_from HRL.out q hq; omega)
  clear hV
  exact bodyPost_ret (results_mid rfl _ _ (w.heap.size + 1) 0 [.slice (some ⟨eb, 0, none⟩) n n, .int .i64 tk, .int .i64 st, .slice A5 (wh n (relQ L E)).length c5] _ rfl (blk_rangeS KV) Try.underlying50 rfl (by kernel_rfl)) rfl ⟨_, _, by rw [HPL.out], by rw [HPL.out]; exact own_mono O1 (by omega), by rw [HPL.out]; exact own_mono O2 (by omega), BB⟩
set_option maxHeartbeats 4000000 in
set_option maxRecDepth 100000 in
theorem sof_01 (a : Nat) (A : Option Addr) (n c : Nat) (L : List Sk) (key : ByteArray) (mode : Int) (w : World) (hn : n = L.length) (h1 : n ≤ 1000) (ha : At w A (scs L)) (hcur : cur L = none) (hent : entQ L (plan0 L key mode) = true) :
    Calls Try.prog 26 #[.slice A n c, .string key, .int .i64 mode] w fun e w' => SofPost L key mode w n e w' := by
  have hst : stay L key = none := by unfold stay; rw [hcur]
  have hpl : plan0 L key mode = repl L key mode := by unfold plan0; rw [hst]
  have htk0 := plan0_take L key mode
  have hlen0 := plan0_len L key mode
  obtain ⟨U, hU⟩ : ∃ W, W = (w.alloc (.cells #[.slice A n c] 45)).alloc (.cells #[.slice none 0 0, .int .i64 0, .int .i64 0, .slice none 0 0] 50) := ⟨_, rfl⟩
  have hbU : Below w.heap.size w U := by rw [hU]; exact (below_alloc w _).alloc (by simp) _
  have K0 := Lib.hid (show Blk U w.heap.size 45 #[.slice A n c] by rw [hU]; exact (Blk.new w _ _).alloc _)
  have K1 := Lib.hid (show Blk U (w.heap.size + 1) 50 #[.slice none 0 0, .int .i64 0, .int .i64 0, .slice none 0 0] by rw [hU]; exact Blk.new' (w.alloc _) _ _ _ (by simp))
  have HUS : Hid (U.heap.size = w.heap.size + 2) := by show _ = _; rw [hU]; simp
  obtain ⟨gb, hgb⟩ : ∃ b, b = U.heap.size := ⟨_, rfl⟩
  obtain ⟨i0, hi, hz0, hz1, hz2⟩ := info_parts infoInt
  obtain ⟨w2, hmk, hrow, hgm⟩ := run_makeSlice_full (P := Try.prog) U U.heap.size 29 3 i0 (.int .i64 0) 1 Try.underlying29 hi hz0 hz1 .i64 .i64 n (by omega) (by rw [hz2]; omega) (by unfold maxLen; omega) (Nat.le_refl _)
  obtain ⟨eb, heb⟩ : ∃ b, b = U.heap.size := ⟨_, rfl⟩
  obtain ⟨bp, hbp⟩ : ∃ b, b = w2.heap.size := ⟨_, rfl⟩
  rw [← hgb] at hrow
  have hrow' : w2.ownsRow gb 3 1 (.slice (some ⟨eb, 0, none⟩) n n) n (iv (zs n)) := by rw [iv_zs, heb, ← hgb]; exact hrow
  obtain ⟨W3, hW3⟩ : ∃ W, W = w2.alloc (.cells #[.slice (some ⟨eb, 0, none⟩) n n, .int .i64 (-2), .int .i64 0, .slice none 0 0] 50) := ⟨_, rfl⟩
  have hb2 : Below U.heap.size U w2 := (Below.refl _ _).grown hgm (Nat.le_refl _) (fun q hq => nomatch hq)
  have hb3 : Below U.heap.size U W3 := by rw [hW3]; exact hb2.alloc hb2.size _
  have P3 : Hid (PW W3 bp eb gb n (zs n) (-2) 0 (.slice none 0 0)) := ⟨by rw [hW3, hbp]; exact Blk.new w2 _ _, by rw [hW3]; exact hrow'.alloc _, zs_len n⟩
  have HB03 := Lib.hid hb3
  have HA0 := Lib.hid (ha.below hbU)
  have HN := Lib.hid hn
  have HBWU := Lib.hid hbU
  have HBP := Lib.hid (show w.heap.size + 2 ≤ bp by have h5 := hb2.size; have h6 := HUS.out; omega)
  have HBP2 := Lib.hid (show U.heap.size ≤ bp by have h5 := hb2.size; omega)
  have HBAD : Hid (∀ g, badP bp eb g → U.heap.size ≤ g) := by
    have h5 := hb2.size
    rintro g (e | e) <;> omega
  have C1 := Lib.hid (current_any A n c L W3 hn (by omega) (HA0.out.below hb3))
  have HU := Lib.hid hU
  have HW3 := Lib.hid hW3
  have HEB := Lib.hid heb
  have HBPE := Lib.hid hbp
  have HGB := Lib.hid hgb
  have r0 := K0.out.cell 0 (v := .slice A n c) rfl
  have r03 := (K0.out.below hb3).cell 0 (v := .slice A n c) rfl
  obtain ⟨E, tk, st, hE⟩ : ∃ E tk st, (⟨E, tk, st⟩ : Pl) = repl L key mode := ⟨(repl L key mode).each, _, _, rfl⟩
  rw [← hE] at hpl
  rw [hpl] at htk0 hlen0 hent
  have htk : tk < n := by
    replace htk0 : tk < (L.length : Int) ∨ tk < 0 := htk0
    omega
  have HPL := Lib.hid hpl
  have HEN := Lib.hid hent
  have HEE := Lib.hid hE
  have HCU : Hid (oI (cur L) = -1) := by show _ = _; rw [hcur]; rfl
  clear hU hbU hn ha hgb heb hbp hrow hrow' hgm hW3 hb2 hb3 hst hpl htk0 hlen0 hent hE hcur
  go_enter Try.func26, Try.ntmps26
  go_upto_region 1 with fail
  rw [← HU.out]
  go_upto_region 2 with fail
  clear hmk
  rw [← HEB.out, ← HBPE.out, ← HW3.out]
  clear r0
  go_wp2_with fail
  refine C1.out.mono ?_
  rintro e9 W4 ⟨rfl, hb4⟩
  rw [HCU.out]
  have P4 := Lib.hid (P3.out.below hb4)
  have B4 := Lib.hid (HB03.out.trans (hb4.mono HB03.out.size))
  have r04 := (K0.out.below B4.out).cell 0 (v := .slice A n c) rfl
  clear r03 C1
  go_wp2_with fail
  have CR := replace_any bp eb gb _ n c L key mode (.slice none 0 0) U W4 HN.out h1 HA0.out B4.out P4.out HBP2.out (HBAD.out _ (.inr rfl))
  rw [HCU.out] at CR
  refine CR.mono ?_
  rintro e9 X ⟨rfl, px, bx⟩
  rw [← HEE.out] at px
  have PX : Hid (PW X bp eb gb n E tk st (.slice none 0 0)) := px
  have BX := Lib.hid ((Beside.ofBelow hb4).trans bx)
  clear px bx hb4 r04 CR
  have BWX := Lib.hid (BX.out.below HB03.out HB03.out.size HBAD.out)
  have HAX := Lib.hid (HA0.out.below BWX.out)
  have r0 := (K0.out.below BWX.out).cell 0 (v := .slice A n c) rfl
  go_wp2_with fail
  refine (entering0_any bp eb gb A n c L E tk st _ X HN.out (by omega) HAX.out PX.out htk).mono ?_
  rintro e9 Y ⟨rfl, hb⟩
  rw [HEN.out]
  have PY := Lib.hid (PX.out.below hb)
  have BWY := Lib.hid (BWX.out.trans (hb.mono BWX.out.size))
  clear hb PX BX BWX HAX r0
  obtain ⟨Z, hZ⟩ : ∃ W, W = Y := ⟨_, rfl⟩
  rw [← hZ] at PY BWY ⊢
  clear hZ
  have KR := Lib.hid (K1.out.below BWY.out)
  have KP := Lib.hid PY.out.blk
  have HRL : Hid (Z.ownsRow gb 3 1 (.slice none 0 0) (rel L ⟨E, tk, st⟩).length (nv (rel L ⟨E, tk, st⟩))) := by
    show World.ownsRow _ _ _ _ _ _ _
    unfold rel
    rw [if_pos HEN.out]
    exact World.ownsRow_nil _ _ _ _
  have HRE : Hid (Z.ownsRow gb 3 1 (.slice (some ⟨eb, 0, none⟩) n n) n (iv E)) := PY.out.row
  have HB0Z := Lib.hid BWY.out
  have hne : bp ≠ w.heap.size + 1 := by have := HBP.out; omega
  have q0 := KP.out.cell 0 (v := .slice (some ⟨eb, 0, none⟩) n n) rfl
  have q1 := KP.out.cell 1 (v := .int .i64 tk) rfl
  have q2 := KP.out.cell 2 (v := .int .i64 st) rfl
  have q3 := KP.out.cell 3 (v := .slice none 0 0) rfl
  have e0 := KR.out.cell 0 (v := .slice none 0 0) rfl
  have e1 := KR.out.cell 1 (v := .int .i64 0) rfl
  have e2 := KR.out.cell 2 (v := .int .i64 0) rfl
  have e3 := KR.out.cell 3 (v := .slice none 0 0) rfl
  have p0 := KR.out.frozen 0
  have p1 := KR.out.frozen 1
  have p2 := KR.out.frozen 2
  have p3 := KR.out.frozen 3
  go_wp2
  obtain ⟨V, hV⟩ : ∃ V, V = (((Z.setCell ⟨w.heap.size + 1, 0, none⟩ (.slice (some ⟨eb, 0, none⟩) n n)).setCell ⟨w.heap.size + 1, 1, none⟩ (.int .i64 tk)).setCell ⟨w.heap.size + 1, 2, none⟩ (.int .i64 st)).setCell ⟨w.heap.size + 1, 3, none⟩ (.slice none 0 0) := ⟨_, rfl⟩
  rw [← hV]
  have KV : Blk V (w.heap.size + 1) 50 #[.slice (some ⟨eb, 0, none⟩) n n, .int .i64 tk, .int .i64 st, .slice none 0 0] := by rw [hV]; exact sz4 KR.out
  have BV : Beside (fun g => g = w.heap.size + 1) Z V := by rw [hV]; exact ((((Beside.refl (fun g => g = w.heap.size + 1) Z).set (.inl rfl) 0 _).set (.inl rfl) 1 _).set (.inl rfl) 2 _).set (.inl rfl) 3 _
  have hgW : w.heap.size + 1 < gb := by have h8 := HUS.out; have h9 := HGB.out; omega
  have BB : Below w.heap.size w V := BV.below (HBWU.out.trans (HB0Z.out.mono HBWU.out.size)) (Nat.le_trans HBWU.out.size HB0Z.out.size) (fun g hg => by omega)
  have O1 := BV.keepsOwn HRE.out (fun q hq e => by have := own_from HRE.out q hq; omega)
  have O2 := BV.keepsOwn HRL.out (fun q hq e => by have := own_from HRL.out q hq; omega)
  clear hV
  exact bodyPost_ret (results_mid rfl _ _ (w.heap.size + 1) 0 [.slice (some ⟨eb, 0, none⟩) n n, .int .i64 tk, .int .i64 st, .slice none 0 0] _ rfl (blk_rangeS KV) Try.underlying50 rfl (by kernel_rfl)) rfl ⟨_, _, by rw [HPL.out], by rw [HPL.out]; exact own_mono O1 (by omega), by rw [HPL.out]; exact own_mono O2 (by omega), BB⟩
set_option maxHeartbeats 4000000 in
set_option maxRecDepth 100000 in
theorem sof_10 (a : Nat) (A : Option Addr) (n c : Nat) (L : List Sk) (key : ByteArray) (mode : Int) (w : World) (hn : n = L.length) (h1 : n ≤ 1000) (ha : At w A (scs L)) (hcur : cur L = some a) (hkey : key = ByteArray.empty) (hent : entQ L (plan0 L key mode) = false) :
    Calls Try.prog 26 #[.slice A n c, .string key, .int .i64 mode] w fun e w' => SofPost L key mode w n e w' := by
  have hst : stay L key = none := by unfold stay; rw [hcur]; exact if_neg (fun h => h.1 hkey)
  have hpl : plan0 L key mode = repl L key mode := by unfold plan0; rw [hst]
  have htk0 := plan0_take L key mode
  have hlen0 := plan0_len L key mode
  obtain ⟨U, hU⟩ : ∃ W, W = (w.alloc (.cells #[.slice A n c] 45)).alloc (.cells #[.slice none 0 0, .int .i64 0, .int .i64 0, .slice none 0 0] 50) := ⟨_, rfl⟩
  have hbU : Below w.heap.size w U := by rw [hU]; exact (below_alloc w _).alloc (by simp) _
  have K0 := Lib.hid (show Blk U w.heap.size 45 #[.slice A n c] by rw [hU]; exact (Blk.new w _ _).alloc _)
  have K1 := Lib.hid (show Blk U (w.heap.size + 1) 50 #[.slice none 0 0, .int .i64 0, .int .i64 0, .slice none 0 0] by rw [hU]; exact Blk.new' (w.alloc _) _ _ _ (by simp))
  have HUS : Hid (U.heap.size = w.heap.size + 2) := by show _ = _; rw [hU]; simp
  obtain ⟨gb, hgb⟩ : ∃ b, b = U.heap.size := ⟨_, rfl⟩
  obtain ⟨i0, hi, hz0, hz1, hz2⟩ := info_parts infoInt
  obtain ⟨w2, hmk, hrow, hgm⟩ := run_makeSlice_full (P := Try.prog) U U.heap.size 29 3 i0 (.int .i64 0) 1 Try.underlying29 hi hz0 hz1 .i64 .i64 n (by omega) (by rw [hz2]; omega) (by unfold maxLen; omega) (Nat.le_refl _)
  obtain ⟨eb, heb⟩ : ∃ b, b = U.heap.size := ⟨_, rfl⟩
  obtain ⟨bp, hbp⟩ : ∃ b, b = w2.heap.size := ⟨_, rfl⟩
  rw [← hgb] at hrow
  have hrow' : w2.ownsRow gb 3 1 (.slice (some ⟨eb, 0, none⟩) n n) n (iv (zs n)) := by rw [iv_zs, heb, ← hgb]; exact hrow
  obtain ⟨W3, hW3⟩ : ∃ W, W = w2.alloc (.cells #[.slice (some ⟨eb, 0, none⟩) n n, .int .i64 (-2), .int .i64 0, .slice none 0 0] 50) := ⟨_, rfl⟩
  have hb2 : Below U.heap.size U w2 := (Below.refl _ _).grown hgm (Nat.le_refl _) (fun q hq => nomatch hq)
  have hb3 : Below U.heap.size U W3 := by rw [hW3]; exact hb2.alloc hb2.size _
  have P3 : Hid (PW W3 bp eb gb n (zs n) (-2) 0 (.slice none 0 0)) := ⟨by rw [hW3, hbp]; exact Blk.new w2 _ _, by rw [hW3]; exact hrow'.alloc _, zs_len n⟩
  have HB03 := Lib.hid hb3
  have HA0 := Lib.hid (ha.below hbU)
  have HN := Lib.hid hn
  have HBWU := Lib.hid hbU
  have HBP := Lib.hid (show w.heap.size + 2 ≤ bp by have h5 := hb2.size; have h6 := HUS.out; omega)
  have HBP2 := Lib.hid (show U.heap.size ≤ bp by have h5 := hb2.size; omega)
  have HBAD : Hid (∀ g, badP bp eb g → U.heap.size ≤ g) := by
    have h5 := hb2.size
    rintro g (e | e) <;> omega
  have C1 := Lib.hid (current_any A n c L W3 hn (by omega) (HA0.out.below hb3))
  have HU := Lib.hid hU
  have HW3 := Lib.hid hW3
  have HEB := Lib.hid heb
  have HBPE := Lib.hid hbp
  have HGB := Lib.hid hgb
  have r0 := K0.out.cell 0 (v := .slice A n c) rfl
  have r03 := (K0.out.below hb3).cell 0 (v := .slice A n c) rfl
  obtain ⟨E, tk, st, hE⟩ : ∃ E tk st, (⟨E, tk, st⟩ : Pl) = repl L key mode := ⟨(repl L key mode).each, _, _, rfl⟩
  rw [← hE] at hpl
  rw [hpl] at htk0 hlen0 hent
  have htk : tk < n := by
    replace htk0 : tk < (L.length : Int) ∨ tk < 0 := htk0
    omega
  have HPL := Lib.hid hpl
  have HEN := Lib.hid hent
  have HEE := Lib.hid hE
  have han := (cur_some hcur).1
  rw [← hn] at han
  obtain ⟨b1, o1, hA1, hbb1, hc0, _⟩ := at_sk (ha.below hbU) (k := a) (by omega)
  obtain ⟨s, hs⟩ : ∃ s, s = (sk L a).1 := ⟨_, rfl⟩
  rw [← hs] at hc0
  have hd0 := (hb3.cell (p := ⟨b1, o1 + a * 2, none⟩) hbb1).trans hc0
  have HCU : Hid (oI (cur L) = (a : Int)) := by show _ = _; rw [hcur]; rfl
  have hsk := str_em hkey
  clear hU hbU hn ha hgb heb hbp hrow hrow' hgm hW3 hb2 hb3 hst hpl htk0 hlen0 hent hE hcur hc0 hs hkey
  subst hA1
  go_enter Try.func26, Try.ntmps26
  go_upto_region 1 with fail
  rw [← HU.out]
  go_upto_region 2 with fail
  clear hmk
  rw [← HEB.out, ← HBPE.out, ← HW3.out]
  clear r0
  go_wp2_with fail
  refine C1.out.mono ?_
  rintro e9 W4 ⟨rfl, hb4⟩
  rw [HCU.out]
  have P4 := Lib.hid (P3.out.below hb4)
  have B4 := Lib.hid (HB03.out.trans (hb4.mono HB03.out.size))
  have r04 := (K0.out.below B4.out).cell 0 (v := .slice (some ⟨b1, o1, none⟩) n c) rfl
  have hd4 := (hb4.cell (p := ⟨b1, o1 + a * 2, none⟩) (Nat.lt_of_lt_of_le hbb1 HB03.out.size)).trans hd0
  clear r03 C1 hd0
  go_wp2_with fail
  have CR := replace_any bp eb gb _ n c L key mode (.slice none 0 0) U W4 HN.out h1 HA0.out B4.out P4.out HBP2.out (HBAD.out _ (.inr rfl))
  rw [HCU.out] at CR
  refine CR.mono ?_
  rintro e9 X ⟨rfl, px, bx⟩
  rw [← HEE.out] at px
  have PX : Hid (PW X bp eb gb n E tk st (.slice none 0 0)) := px
  have BX := Lib.hid ((Beside.ofBelow hb4).trans bx)
  clear px bx hb4 r04 CR
  have BWX := Lib.hid (BX.out.below HB03.out HB03.out.size HBAD.out)
  have HAX := Lib.hid (HA0.out.below BWX.out)
  have r0 := (K0.out.below BWX.out).cell 0 (v := .slice (some ⟨b1, o1, none⟩) n c) rfl
  go_wp2_with fail
  refine (entering0_any bp eb gb _ n c L E tk st _ X HN.out (by omega) HAX.out PX.out htk).mono ?_
  rintro e9 Y ⟨rfl, hb⟩
  rw [HEN.out]
  have PY := Lib.hid (PX.out.below hb)
  have BWY := Lib.hid (BWX.out.trans (hb.mono BWX.out.size))
  clear hb PX BX BWX HAX r0
  have r0 := (K0.out.below BWY.out).cell 0 (v := .slice (some ⟨b1, o1, none⟩) n c) rfl
  have HAY := Lib.hid (HA0.out.below BWY.out)
  have KOY := Lib.hid (K0.out.below BWY.out)
  go_wp2_with fail
  refine (where_sof n bp w.heap.size (relQ L E) Y (by omega) (fun W i hi hb => sof1_any i bp w.heap.size eb _ n c L E gb tk st _ W hi HN.out ((KOY.out.below hb).cell 0 rfl) (PY.out.below hb) (HAY.out.below hb))).mono ?_
  rintro e9 Y2 ⟨v5, rfl, ho5, hb5⟩
  obtain ⟨A5, c5, rfl, _, _⟩ := own_slice ho5
  have PY2 := Lib.hid (PY.out.below hb5)
  have BW2 := Lib.hid (BWY.out.trans (hb5.mono BWY.out.size))
  have hsY := Lib.hid (show gb ≤ Y.heap.size by have h1 := BWY.out.size; have h2 := HGB.out; omega)
  have HO5 := Lib.hid (own_mono ho5 hsY.out)
  have HNB := Lib.hid (fun q (hq : (Value.slice A5 (wh n (relQ L E)).length c5).ownBlock = some q) => (own_from ho5 q hq))
  have hbpY : bp < Y.heap.size := PY.out.blk.lt
  have hebY : eb < Y.heap.size := (PY.out.row.lt _ rfl).2
  clear ho5 hb5 PY BWY r0 HAY KOY
  have e3 := PY2.out.blk.cell 3 (v := .slice none 0 0) rfl
  have p3 := PY2.out.blk.frozen 3
  go_upto_region 8 with fail
  obtain ⟨Z, hZ⟩ : ∃ W, W = Y2.setCell ⟨bp, 3, none⟩ (.slice A5 (wh n (relQ L E)).length c5) := ⟨_, rfl⟩
  rw [← hZ]
  have hbs : Beside (fun g => g = bp) Y2 Z := by rw [hZ]; exact (Beside.refl (fun g => g = bp) Y2).set (.inl rfl) 3 _
  have KP := Lib.hid (show Blk Z bp 50 #[.slice (some ⟨eb, 0, none⟩) n n, .int .i64 tk, .int .i64 st, .slice A5 (wh n (relQ L E)).length c5] by rw [hZ]; exact PY2.out.blk.set 3 _)
  have HB0Z := Lib.hid (hbs.below BW2.out BW2.out.size (fun g hg => by subst hg; exact HBP2.out))
  have HRE := Lib.hid (hbs.keepsOwn PY2.out.row (fun q hq e => by injection hq with hq; simp only at hq; exact PY2.out.ne (hq.trans e)))
  have HRL : Hid (Z.ownsRow gb 3 1 (.slice A5 (wh n (relQ L E)).length c5) (rel L ⟨E, tk, st⟩).length (nv (rel L ⟨E, tk, st⟩))) := by
    show World.ownsRow _ _ _ _ _ _ _
    unfold rel
    rw [if_neg (by rw [HEN.out]; simp), show L.length = n from HN.out.symm]
    exact hbs.keepsOwn HO5.out (fun q hq e => by have := HNB.out q hq; omega)
  have KR := Lib.hid (K1.out.below HB0Z.out)
  have hne : bp ≠ w.heap.size + 1 := by have := HBP.out; omega
  clear hZ hbs e3 p3 PY2 HO5
  have q0 := KP.out.cell 0 (v := .slice (some ⟨eb, 0, none⟩) n n) rfl
  have q1 := KP.out.cell 1 (v := .int .i64 tk) rfl
  have q2 := KP.out.cell 2 (v := .int .i64 st) rfl
  have q3 := KP.out.cell 3 (v := .slice A5 (wh n (relQ L E)).length c5) rfl
  have e0 := KR.out.cell 0 (v := .slice none 0 0) rfl
  have e1 := KR.out.cell 1 (v := .int .i64 0) rfl
  have e2 := KR.out.cell 2 (v := .int .i64 0) rfl
  have e3 := KR.out.cell 3 (v := .slice none 0 0) rfl
  have p0 := KR.out.frozen 0
  have p1 := KR.out.frozen 1
  have p2 := KR.out.frozen 2
  have p3 := KR.out.frozen 3
  go_wp2
  obtain ⟨V, hV⟩ : ∃ V, V = (((Z.setCell ⟨w.heap.size + 1, 0, none⟩ (.slice (some ⟨eb, 0, none⟩) n n)).setCell ⟨w.heap.size + 1, 1, none⟩ (.int .i64 tk)).setCell ⟨w.heap.size + 1, 2, none⟩ (.int .i64 st)).setCell ⟨w.heap.size + 1, 3, none⟩ (.slice A5 (wh n (relQ L E)).length c5) := ⟨_, rfl⟩
  rw [← hV]
  have KV : Blk V (w.heap.size + 1) 50 #[.slice (some ⟨eb, 0, none⟩) n n, .int .i64 tk, .int .i64 st, .slice A5 (wh n (relQ L E)).length c5] := by rw [hV]; exact sz4 KR.out
  have BV : Beside (fun g => g = w.heap.size + 1) Z V := by rw [hV]; exact ((((Beside.refl (fun g => g = w.heap.size + 1) Z).set (.inl rfl) 0 _).set (.inl rfl) 1 _).set (.inl rfl) 2 _).set (.inl rfl) 3 _
  have hgW : w.heap.size + 1 < gb := by have h8 := HUS.out; have h9 := HGB.out; omega
  have BB : Below w.heap.size w V := BV.below (HBWU.out.trans (HB0Z.out.mono HBWU.out.size)) (Nat.le_trans HBWU.out.size HB0Z.out.size) (fun g hg => by omega)
  have O1 := BV.keepsOwn HRE.out (fun q hq e => by have := own_from HRE.out q hq; omega)
  have O2 := BV.keepsOwn HRL.out (fun q hq e => by have := own_from HRL.out q hq; omega)
  clear hV
  exact bodyPost_ret (results_mid rfl _ _ (w.heap.size + 1) 0 [.slice (some ⟨eb, 0, none⟩) n n, .int .i64 tk, .int .i64 st, .slice A5 (wh n (relQ L E)).length c5] _ rfl (blk_rangeS KV) Try.underlying50 rfl (by kernel_rfl)) rfl ⟨_, _, by rw [HPL.out], by rw [HPL.out]; exact own_mono O1 (by omega), by rw [HPL.out]; exact own_mono O2 (by omega), BB⟩
set_option maxHeartbeats 4000000 in
set_option maxRecDepth 100000 in
theorem sof_11 (a : Nat) (A : Option Addr) (n c : Nat) (L : List Sk) (key : ByteArray) (mode : Int) (w : World) (hn : n = L.length) (h1 : n ≤ 1000) (ha : At w A (scs L)) (hcur : cur L = some a) (hkey : key = ByteArray.empty) (hent : entQ L (plan0 L key mode) = true) :
    Calls Try.prog 26 #[.slice A n c, .string key, .int .i64 mode] w fun e w' => SofPost L key mode w n e w' := by
  have hst : stay L key = none := by unfold stay; rw [hcur]; exact if_neg (fun h => h.1 hkey)
  have hpl : plan0 L key mode = repl L key mode := by unfold plan0; rw [hst]
  have htk0 := plan0_take L key mode
  have hlen0 := plan0_len L key mode
  obtain ⟨U, hU⟩ : ∃ W, W = (w.alloc (.cells #[.slice A n c] 45)).alloc (.cells #[.slice none 0 0, .int .i64 0, .int .i64 0, .slice none 0 0] 50) := ⟨_, rfl⟩
  have hbU : Below w.heap.size w U := by rw [hU]; exact (below_alloc w _).alloc (by simp) _
  have K0 := Lib.hid (show Blk U w.heap.size 45 #[.slice A n c] by rw [hU]; exact (Blk.new w _ _).alloc _)
  have K1 := Lib.hid (show Blk U (w.heap.size + 1) 50 #[.slice none 0 0, .int .i64 0, .int .i64 0, .slice none 0 0] by rw [hU]; exact Blk.new' (w.alloc _) _ _ _ (by simp))
  have HUS : Hid (U.heap.size = w.heap.size + 2) := by show _ = _; rw [hU]; simp
  obtain ⟨gb, hgb⟩ : ∃ b, b = U.heap.size := ⟨_, rfl⟩
  obtain ⟨i0, hi, hz0, hz1, hz2⟩ := info_parts infoInt
  obtain ⟨w2, hmk, hrow, hgm⟩ := run_makeSlice_full (P := Try.prog) U U.heap.size 29 3 i0 (.int .i64 0) 1 Try.underlying29 hi hz0 hz1 .i64 .i64 n (by omega) (by rw [hz2]; omega) (by unfold maxLen; omega) (Nat.le_refl _)
  obtain ⟨eb, heb⟩ : ∃ b, b = U.heap.size := ⟨_, rfl⟩
  obtain ⟨bp, hbp⟩ : ∃ b, b = w2.heap.size := ⟨_, rfl⟩
  rw [← hgb] at hrow
  have hrow' : w2.ownsRow gb 3 1 (.slice (some ⟨eb, 0, none⟩) n n) n (iv (zs n)) := by rw [iv_zs, heb, ← hgb]; exact hrow
  obtain ⟨W3, hW3⟩ : ∃ W, W = w2.alloc (.cells #[.slice (some ⟨eb, 0, none⟩) n n, .int .i64 (-2), .int .i64 0, .slice none 0 0] 50) := ⟨_, rfl⟩
  have hb2 : Below U.heap.size U w2 := (Below.refl _ _).grown hgm (Nat.le_refl _) (fun q hq => nomatch hq)
  have hb3 : Below U.heap.size U W3 := by rw [hW3]; exact hb2.alloc hb2.size _
  have P3 : Hid (PW W3 bp eb gb n (zs n) (-2) 0 (.slice none 0 0)) := ⟨by rw [hW3, hbp]; exact Blk.new w2 _ _, by rw [hW3]; exact hrow'.alloc _, zs_len n⟩
  have HB03 := Lib.hid hb3
  have HA0 := Lib.hid (ha.below hbU)
  have HN := Lib.hid hn
  have HBWU := Lib.hid hbU
  have HBP := Lib.hid (show w.heap.size + 2 ≤ bp by have h5 := hb2.size; have h6 := HUS.out; omega)
  have HBP2 := Lib.hid (show U.heap.size ≤ bp by have h5 := hb2.size; omega)
  have HBAD : Hid (∀ g, badP bp eb g → U.heap.size ≤ g) := by
    have h5 := hb2.size
    rintro g (e | e) <;> omega
  have C1 := Lib.hid (current_any A n c L W3 hn (by omega) (HA0.out.below hb3))
  have HU := Lib.hid hU
  have HW3 := Lib.hid hW3
  have HEB := Lib.hid heb
  have HBPE := Lib.hid hbp
  have HGB := Lib.hid hgb
  have r0 := K0.out.cell 0 (v := .slice A n c) rfl
  have r03 := (K0.out.below hb3).cell 0 (v := .slice A n c) rfl
  obtain ⟨E, tk, st, hE⟩ : ∃ E tk st, (⟨E, tk, st⟩ : Pl) = repl L key mode := ⟨(repl L key mode).each, _, _, rfl⟩
  rw [← hE] at hpl
  rw [hpl] at htk0 hlen0 hent
  have htk : tk < n := by
    replace htk0 : tk < (L.length : Int) ∨ tk < 0 := htk0
    omega
  have HPL := Lib.hid hpl
  have HEN := Lib.hid hent
  have HEE := Lib.hid hE
  have han := (cur_some hcur).1
  rw [← hn] at han
  obtain ⟨b1, o1, hA1, hbb1, hc0, _⟩ := at_sk (ha.below hbU) (k := a) (by omega)
  obtain ⟨s, hs⟩ : ∃ s, s = (sk L a).1 := ⟨_, rfl⟩
  rw [← hs] at hc0
  have hd0 := (hb3.cell (p := ⟨b1, o1 + a * 2, none⟩) hbb1).trans hc0
  have HCU : Hid (oI (cur L) = (a : Int)) := by show _ = _; rw [hcur]; rfl
  have hsk := str_em hkey
  clear hU hbU hn ha hgb heb hbp hrow hrow' hgm hW3 hb2 hb3 hst hpl htk0 hlen0 hent hE hcur hc0 hs hkey
  subst hA1
  go_enter Try.func26, Try.ntmps26
  go_upto_region 1 with fail
  rw [← HU.out]
  go_upto_region 2 with fail
  clear hmk
  rw [← HEB.out, ← HBPE.out, ← HW3.out]
  clear r0
  go_wp2_with fail
  refine C1.out.mono ?_
  rintro e9 W4 ⟨rfl, hb4⟩
  rw [HCU.out]
  have P4 := Lib.hid (P3.out.below hb4)
  have B4 := Lib.hid (HB03.out.trans (hb4.mono HB03.out.size))
  have r04 := (K0.out.below B4.out).cell 0 (v := .slice (some ⟨b1, o1, none⟩) n c) rfl
  have hd4 := (hb4.cell (p := ⟨b1, o1 + a * 2, none⟩) (Nat.lt_of_lt_of_le hbb1 HB03.out.size)).trans hd0
  clear r03 C1 hd0
  go_wp2_with fail
  have CR := replace_any bp eb gb _ n c L key mode (.slice none 0 0) U W4 HN.out h1 HA0.out B4.out P4.out HBP2.out (HBAD.out _ (.inr rfl))
  rw [HCU.out] at CR
  refine CR.mono ?_
  rintro e9 X ⟨rfl, px, bx⟩
  rw [← HEE.out] at px
  have PX : Hid (PW X bp eb gb n E tk st (.slice none 0 0)) := px
  have BX := Lib.hid ((Beside.ofBelow hb4).trans bx)
  clear px bx hb4 r04 CR
  have BWX := Lib.hid (BX.out.below HB03.out HB03.out.size HBAD.out)
  have HAX := Lib.hid (HA0.out.below BWX.out)
  have r0 := (K0.out.below BWX.out).cell 0 (v := .slice (some ⟨b1, o1, none⟩) n c) rfl
  go_wp2_with fail
  refine (entering0_any bp eb gb _ n c L E tk st _ X HN.out (by omega) HAX.out PX.out htk).mono ?_
  rintro e9 Y ⟨rfl, hb⟩
  rw [HEN.out]
  have PY := Lib.hid (PX.out.below hb)
  have BWY := Lib.hid (BWX.out.trans (hb.mono BWX.out.size))
  clear hb PX BX BWX HAX r0
  obtain ⟨Z, hZ⟩ : ∃ W, W = Y := ⟨_, rfl⟩
  rw [← hZ] at PY BWY ⊢
  clear hZ
  have KR := Lib.hid (K1.out.below BWY.out)
  have KP := Lib.hid PY.out.blk
  have HRL : Hid (Z.ownsRow gb 3 1 (.slice none 0 0) (rel L ⟨E, tk, st⟩).length (nv (rel L ⟨E, tk, st⟩))) := by
    show World.ownsRow _ _ _ _ _ _ _
    unfold rel
    rw [if_pos HEN.out]
    exact World.ownsRow_nil _ _ _ _
  have HRE : Hid (Z.ownsRow gb 3 1 (.slice (some ⟨eb, 0, none⟩) n n) n (iv E)) := PY.out.row
  have HB0Z := Lib.hid BWY.out
  have hne : bp ≠ w.heap.size + 1 := by have := HBP.out; omega
  have q0 := KP.out.cell 0 (v := .slice (some ⟨eb, 0, none⟩) n n) rfl
  have q1 := KP.out.cell 1 (v := .int .i64 tk) rfl
  have q2 := KP.out.cell 2 (v := .int .i64 st) rfl
  have q3 := KP.out.cell 3 (v := .slice none 0 0) rfl
  have e0 := KR.out.cell 0 (v := .slice none 0 0) rfl
  have e1 := KR.out.cell 1 (v := .int .i64 0) rfl
  have e2 := KR.out.cell 2 (v := .int .i64 0) rfl
  have e3 := KR.out.cell 3 (v := .slice none 0 0) rfl
  have p0 := KR.out.frozen 0
  have p1 := KR.out.frozen 1
  have p2 := KR.out.frozen 2
  have p3 := KR.out.frozen 3
  go_wp2
  obtain ⟨V, hV⟩ : ∃ V, V = (((Z.setCell ⟨w.heap.size + 1, 0, none⟩ (.slice (some ⟨eb, 0, none⟩) n n)).setCell ⟨w.heap.size + 1, 1, none⟩ (.int .i64 tk)).setCell ⟨w.heap.size + 1, 2, none⟩ (.int .i64 st)).setCell ⟨w.heap.size + 1, 3, none⟩ (.slice none 0 0) := ⟨_, rfl⟩
  rw [← hV]
  have KV : Blk V (w.heap.size + 1) 50 #[.slice (some ⟨eb, 0, none⟩) n n, .int .i64 tk, .int .i64 st, .slice none 0 0] := by rw [hV]; exact sz4 KR.out
  have BV : Beside (fun g => g = w.heap.size + 1) Z V := by rw [hV]; exact ((((Beside.refl (fun g => g = w.heap.size + 1) Z).set (.inl rfl) 0 _).set (.inl rfl) 1 _).set (.inl rfl) 2 _).set (.inl rfl) 3 _
  have hgW : w.heap.size + 1 < gb := by have h8 := HUS.out; have h9 := HGB.out; omega
  have BB : Below w.heap.size w V := BV.below (HBWU.out.trans (HB0Z.out.mono HBWU.out.size)) (Nat.le_trans HBWU.out.size HB0Z.out.size) (fun g hg => by omega)
  have O1 := BV.keepsOwn HRE.out (fun q hq e => by have := own_from HRE.out q hq; omega)
  have O2 := BV.keepsOwn HRL.out (fun q hq e => by have := own_from HRL.out q hq; omega)
  clear hV
  exact bodyPost_ret (results_mid rfl _ _ (w.heap.size + 1) 0 [.slice (some ⟨eb, 0, none⟩) n n, .int .i64 tk, .int .i64 st, .slice none 0 0] _ rfl (blk_rangeS KV) Try.underlying50 rfl (by kernel_rfl)) rfl ⟨_, _, by rw [HPL.out], by rw [HPL.out]; exact own_mono O1 (by omega), by rw [HPL.out]; exact own_mono O2 (by omega), BB⟩
set_option maxHeartbeats 4000000 in
set_option maxRecDepth 100000 in
theorem sof_20 (a : Nat) (A : Option Addr) (n c : Nat) (L : List Sk) (key : ByteArray) (mode : Int) (w : World) (hn : n = L.length) (h1 : n ≤ 1000) (ha : At w A (scs L)) (hcur : cur L = some a) (hkey : ¬ key = ByteArray.empty) (hsame : ¬ (sk L a).1 = key) (hent : entQ L (plan0 L key mode) = false) :
    Calls Try.prog 26 #[.slice A n c, .string key, .int .i64 mode] w fun e w' => SofPost L key mode w n e w' := by
  have hst : stay L key = none := by unfold stay; rw [hcur]; exact if_neg (fun h => hsame h.2)
  have hpl : plan0 L key mode = repl L key mode := by unfold plan0; rw [hst]
  have htk0 := plan0_take L key mode
  have hlen0 := plan0_len L key mode
  obtain ⟨U, hU⟩ : ∃ W, W = (w.alloc (.cells #[.slice A n c] 45)).alloc (.cells #[.slice none 0 0, .int .i64 0, .int .i64 0, .slice none 0 0] 50) := ⟨_, rfl⟩
  have hbU : Below w.heap.size w U := by rw [hU]; exact (below_alloc w _).alloc (by simp) _
  have K0 := Lib.hid (show Blk U w.heap.size 45 #[.slice A n c] by rw [hU]; exact (Blk.new w _ _).alloc _)
  have K1 := Lib.hid (show Blk U (w.heap.size + 1) 50 #[.slice none 0 0, .int .i64 0, .int .i64 0, .slice none 0 0] by rw [hU]; exact Blk.new' (w.alloc _) _ _ _ (by simp))
  have HUS : Hid (U.heap.size = w.heap.size + 2) := by show _ = _; rw [hU]; simp
  obtain ⟨gb, hgb⟩ : ∃ b, b = U.heap.size := ⟨_, rfl⟩
  obtain ⟨i0, hi, hz0, hz1, hz2⟩ := info_parts infoInt
  obtain ⟨w2, hmk, hrow, hgm⟩ := run_makeSlice_full (P := Try.prog) U U.heap.size 29 3 i0 (.int .i64 0) 1 Try.underlying29 hi hz0 hz1 .i64 .i64 n (by omega) (by rw [hz2]; omega) (by unfold maxLen; omega) (Nat.le_refl _)
  obtain ⟨eb, heb⟩ : ∃ b, b = U.heap.size := ⟨_, rfl⟩
  obtain ⟨bp, hbp⟩ : ∃ b, b = w2.heap.size := ⟨_, rfl⟩
  rw [← hgb] at hrow
  have hrow' : w2.ownsRow gb 3 1 (.slice (some ⟨eb, 0, none⟩) n n) n (iv (zs n)) := by rw [iv_zs, heb, ← hgb]; exact hrow
  obtain ⟨W3, hW3⟩ : ∃ W, W = w2.alloc (.cells #[.slice (some ⟨eb, 0, none⟩) n n, .int .i64 (-2), .int .i64 0, .slice none 0 0] 50) := ⟨_, rfl⟩
  have hb2 : Below U.heap.size U w2 := (Below.refl _ _).grown hgm (Nat.le_refl _) (fun q hq => nomatch hq)
  have hb3 : Below U.heap.size U W3 := by rw [hW3]; exact hb2.alloc hb2.size _
  have P3 : Hid (PW W3 bp eb gb n (zs n) (-2) 0 (.slice none 0 0)) := ⟨by rw [hW3, hbp]; exact Blk.new w2 _ _, by rw [hW3]; exact hrow'.alloc _, zs_len n⟩
  have HB03 := Lib.hid hb3
  have HA0 := Lib.hid (ha.below hbU)
  have HN := Lib.hid hn
  have HBWU := Lib.hid hbU
  have HBP := Lib.hid (show w.heap.size + 2 ≤ bp by have h5 := hb2.size; have h6 := HUS.out; omega)
  have HBP2 := Lib.hid (show U.heap.size ≤ bp by have h5 := hb2.size; omega)
  have HBAD : Hid (∀ g, badP bp eb g → U.heap.size ≤ g) := by
    have h5 := hb2.size
    rintro g (e | e) <;> omega
  have C1 := Lib.hid (current_any A n c L W3 hn (by omega) (HA0.out.below hb3))
  have HU := Lib.hid hU
  have HW3 := Lib.hid hW3
  have HEB := Lib.hid heb
  have HBPE := Lib.hid hbp
  have HGB := Lib.hid hgb
  have r0 := K0.out.cell 0 (v := .slice A n c) rfl
  have r03 := (K0.out.below hb3).cell 0 (v := .slice A n c) rfl
  obtain ⟨E, tk, st, hE⟩ : ∃ E tk st, (⟨E, tk, st⟩ : Pl) = repl L key mode := ⟨(repl L key mode).each, _, _, rfl⟩
  rw [← hE] at hpl
  rw [hpl] at htk0 hlen0 hent
  have htk : tk < n := by
    replace htk0 : tk < (L.length : Int) ∨ tk < 0 := htk0
    omega
  have HPL := Lib.hid hpl
  have HEN := Lib.hid hent
  have HEE := Lib.hid hE
  have han := (cur_some hcur).1
  rw [← hn] at han
  obtain ⟨b1, o1, hA1, hbb1, hc0, _⟩ := at_sk (ha.below hbU) (k := a) (by omega)
  obtain ⟨s, hs⟩ : ∃ s, s = (sk L a).1 := ⟨_, rfl⟩
  rw [← hs] at hc0 hsame
  have hd0 := (hb3.cell (p := ⟨b1, o1 + a * 2, none⟩) hbb1).trans hc0
  have HCU : Hid (oI (cur L) = (a : Int)) := by show _ = _; rw [hcur]; rfl
  have hsk := str_ne hkey
  have hst2 : (s.toList == key.toList) = false := M.str_no hsame
  clear hU hbU hn ha hgb heb hbp hrow hrow' hgm hW3 hb2 hb3 hst hpl htk0 hlen0 hent hE hcur hc0 hs hkey hsame
  subst hA1
  go_enter Try.func26, Try.ntmps26
  go_upto_region 1 with fail
  rw [← HU.out]
  go_upto_region 2 with fail
  clear hmk
  rw [← HEB.out, ← HBPE.out, ← HW3.out]
  clear r0
  go_wp2_with fail
  refine C1.out.mono ?_
  rintro e9 W4 ⟨rfl, hb4⟩
  rw [HCU.out]
  have P4 := Lib.hid (P3.out.below hb4)
  have B4 := Lib.hid (HB03.out.trans (hb4.mono HB03.out.size))
  have r04 := (K0.out.below B4.out).cell 0 (v := .slice (some ⟨b1, o1, none⟩) n c) rfl
  have hd4 := (hb4.cell (p := ⟨b1, o1 + a * 2, none⟩) (Nat.lt_of_lt_of_le hbb1 HB03.out.size)).trans hd0
  clear r03 C1 hd0
  go_wp2_with fail
  have CR := replace_any bp eb gb _ n c L key mode (.slice none 0 0) U W4 HN.out h1 HA0.out B4.out P4.out HBP2.out (HBAD.out _ (.inr rfl))
  rw [HCU.out] at CR
  refine CR.mono ?_
  rintro e9 X ⟨rfl, px, bx⟩
  rw [← HEE.out] at px
  have PX : Hid (PW X bp eb gb n E tk st (.slice none 0 0)) := px
  have BX := Lib.hid ((Beside.ofBelow hb4).trans bx)
  clear px bx hb4 r04 CR
  have BWX := Lib.hid (BX.out.below HB03.out HB03.out.size HBAD.out)
  have HAX := Lib.hid (HA0.out.below BWX.out)
  have r0 := (K0.out.below BWX.out).cell 0 (v := .slice (some ⟨b1, o1, none⟩) n c) rfl
  go_wp2_with fail
  refine (entering0_any bp eb gb _ n c L E tk st _ X HN.out (by omega) HAX.out PX.out htk).mono ?_
  rintro e9 Y ⟨rfl, hb⟩
  rw [HEN.out]
  have PY := Lib.hid (PX.out.below hb)
  have BWY := Lib.hid (BWX.out.trans (hb.mono BWX.out.size))
  clear hb PX BX BWX HAX r0
  have r0 := (K0.out.below BWY.out).cell 0 (v := .slice (some ⟨b1, o1, none⟩) n c) rfl
  have HAY := Lib.hid (HA0.out.below BWY.out)
  have KOY := Lib.hid (K0.out.below BWY.out)
  go_wp2_with fail
  refine (where_sof n bp w.heap.size (relQ L E) Y (by omega) (fun W i hi hb => sof1_any i bp w.heap.size eb _ n c L E gb tk st _ W hi HN.out ((KOY.out.below hb).cell 0 rfl) (PY.out.below hb) (HAY.out.below hb))).mono ?_
  rintro e9 Y2 ⟨v5, rfl, ho5, hb5⟩
  obtain ⟨A5, c5, rfl, _, _⟩ := own_slice ho5
  have PY2 := Lib.hid (PY.out.below hb5)
  have BW2 := Lib.hid (BWY.out.trans (hb5.mono BWY.out.size))
  have hsY := Lib.hid (show gb ≤ Y.heap.size by have h1 := BWY.out.size; have h2 := HGB.out; omega)
  have HO5 := Lib.hid (own_mono ho5 hsY.out)
  have HNB := Lib.hid (fun q (hq : (Value.slice A5 (wh n (relQ L E)).length c5).ownBlock = some q) => (own_from ho5 q hq))
  have hbpY : bp < Y.heap.size := PY.out.blk.lt
  have hebY : eb < Y.heap.size := (PY.out.row.lt _ rfl).2
  clear ho5 hb5 PY BWY r0 HAY KOY
  have e3 := PY2.out.blk.cell 3 (v := .slice none 0 0) rfl
  have p3 := PY2.out.blk.frozen 3
  go_upto_region 8 with fail
  obtain ⟨Z, hZ⟩ : ∃ W, W = Y2.setCell ⟨bp, 3, none⟩ (.slice A5 (wh n (relQ L E)).length c5) := ⟨_, rfl⟩
  rw [← hZ]
  have hbs : Beside (fun g => g = bp) Y2 Z := by rw [hZ]; exact (Beside.refl (fun g => g = bp) Y2).set (.inl rfl) 3 _
  have KP := Lib.hid (show Blk Z bp 50 #[.slice (some ⟨eb, 0, none⟩) n n, .int .i64 tk, .int .i64 st, .slice A5 (wh n (relQ L E)).length c5] by rw [hZ]; exact PY2.out.blk.set 3 _)
  have HB0Z := Lib.hid (hbs.below BW2.out BW2.out.size (fun g hg => by subst hg; exact HBP2.out))
  have HRE := Lib.hid (hbs.keepsOwn PY2.out.row (fun q hq e => by injection hq with hq; simp only at hq; exact PY2.out.ne (hq.trans e)))
  have HRL : Hid (Z.ownsRow gb 3 1 (.slice A5 (wh n (relQ L E)).length c5) (rel L ⟨E, tk, st⟩).length (nv (rel L ⟨E, tk, st⟩))) := by
    show World.ownsRow _ _ _ _ _ _ _
    unfold rel
    rw [if_neg (by rw [HEN.out]; simp), show L.length = n from HN.out.symm]
    exact hbs.keepsOwn HO5.out (fun q hq e => by have := HNB.out q hq; omega)
  have KR := Lib.hid (K1.out.below HB0Z.out)
  have hne : bp ≠ w.heap.size + 1 := by have := HBP.out; omega
  clear hZ hbs e3 p3 PY2 HO5
  have q0 := KP.out.cell 0 (v := .slice (some ⟨eb, 0, none⟩) n n) rfl
  have q1 := KP.out.cell 1 (v := .int .i64 tk) rfl
  have q2 := KP.out.cell 2 (v := .int .i64 st) rfl
  have q3 := KP.out.cell 3 (v := .slice A5 (wh n (relQ L E)).length c5) rfl
  have e0 := KR.out.cell 0 (v := .slice none 0 0) rfl
  have e1 := KR.out.cell 1 (v := .int .i64 0) rfl
  have e2 := KR.out.cell 2 (v := .int .i64 0) rfl
  have e3 := KR.out.cell 3 (v := .slice none 0 0) rfl
  have p0 := KR.out.frozen 0
  have p1 := KR.out.frozen 1
  have p2 := KR.out.frozen 2
  have p3 := KR.out.frozen 3
  go_wp2
  obtain ⟨V, hV⟩ : ∃ V, V = (((Z.setCell ⟨w.heap.size + 1, 0, none⟩ (.slice (some ⟨eb, 0, none⟩) n n)).setCell ⟨w.heap.size + 1, 1, none⟩ (.int .i64 tk)).setCell ⟨w.heap.size + 1, 2, none⟩ (.int .i64 st)).setCell ⟨w.heap.size + 1, 3, none⟩ (.slice A5 (wh n (relQ L E)).length c5) := ⟨_, rfl⟩
  rw [← hV]
  have KV : Blk V (w.heap.size + 1) 50 #[.slice (some ⟨eb, 0, none⟩) n n, .int .i64 tk, .int .i64 st, .slice A5 (wh n (relQ L E)).length c5] := by rw [hV]; exact sz4 KR.out
  have BV : Beside (fun g => g = w.heap.size + 1) Z V := by rw [hV]; exact ((((Beside.refl (fun g => g = w.heap.size + 1) Z).set (.inl rfl) 0 _).set (.inl rfl) 1 _).set (.inl rfl) 2 _).set (.inl rfl) 3 _
  have hgW : w.heap.size + 1 < gb := by have h8 := HUS.out; have h9 := HGB.out; omega
  have BB : Below w.heap.size w V := BV.below (HBWU.out.trans (HB0Z.out.mono HBWU.out.size)) (Nat.le_trans HBWU.out.size HB0Z.out.size) (fun g hg => by omega)
  have O1 := BV.keepsOwn HRE.out (fun q hq e => by have := own_from HRE.out q hq; omega)
  have O2 := BV.keepsOwn HRL.out (fun q hq e => by have := own_from HRL.out q hq; omega)
  clear hV
  exact bodyPost_ret (results_mid rfl _ _ (w.heap.size + 1) 0 [.slice (some ⟨eb, 0, none⟩) n n, .int .i64 tk, .int .i64 st, .slice A5 (wh n (relQ L E)).length c5] _ rfl (blk_rangeS KV) Try.underlying50 rfl (by kernel_rfl)) rfl ⟨_, _, by rw [HPL.out], by rw [HPL.out]; exact own_mono O1 (by omega), by rw [HPL.out]; exact own_mono O2 (by omega), BB⟩
set_option maxHeartbeats 4000000 in
set_option maxRecDepth 100000 in
theorem sof_21 (a : Nat) (A : Option Addr) (n c : Nat) (L : List Sk) (key : ByteArray) (mode : Int) (w : World) (hn : n = L.length) (h1 : n ≤ 1000) (ha : At w A (scs L)) (hcur : cur L = some a) (hkey : ¬ key = ByteArray.empty) (hsame : ¬ (sk L a).1 = key) (hent : entQ L (plan0 L key mode) = true) :
    Calls Try.prog 26 #[.slice A n c, .string key, .int .i64 mode] w fun e w' => SofPost L key mode w n e w' := by
  have hst : stay L key = none := by unfold stay; rw [hcur]; exact if_neg (fun h => hsame h.2)
  have hpl : plan0 L key mode = repl L key mode := by unfold plan0; rw [hst]
  have htk0 := plan0_take L key mode
  have hlen0 := plan0_len L key mode
  obtain ⟨U, hU⟩ : ∃ W, W = (w.alloc (.cells #[.slice A n c] 45)).alloc (.cells #[.slice none 0 0, .int .i64 0, .int .i64 0, .slice none 0 0] 50) := ⟨_, rfl⟩
  have hbU : Below w.heap.size w U := by rw [hU]; exact (below_alloc w _).alloc (by simp) _
  have K0 := Lib.hid (show Blk U w.heap.size 45 #[.slice A n c] by rw [hU]; exact (Blk.new w _ _).alloc _)
  have K1 := Lib.hid (show Blk U (w.heap.size + 1) 50 #[.slice none 0 0, .int .i64 0, .int .i64 0, .slice none 0 0] by rw [hU]; exact Blk.new' (w.alloc _) _ _ _ (by simp))
  have HUS : Hid (U.heap.size = w.heap.size + 2) := by show _ = _; rw [hU]; simp
  obtain ⟨gb, hgb⟩ : ∃ b, b = U.heap.size := ⟨_, rfl⟩
  obtain ⟨i0, hi, hz0, hz1, hz2⟩ := info_parts infoInt
  obtain ⟨w2, hmk, hrow, hgm⟩ := run_makeSlice_full (P := Try.prog) U U.heap.size 29 3 i0 (.int .i64 0) 1 Try.underlying29 hi hz0 hz1 .i64 .i64 n (by omega) (by rw [hz2]; omega) (by unfold maxLen; omega) (Nat.le_refl _)
  obtain ⟨eb, heb⟩ : ∃ b, b = U.heap.size := ⟨_, rfl⟩
  obtain ⟨bp, hbp⟩ : ∃ b, b = w2.heap.size := ⟨_, rfl⟩
  rw [← hgb] at hrow
  have hrow' : w2.ownsRow gb 3 1 (.slice (some ⟨eb, 0, none⟩) n n) n (iv (zs n)) := by rw [iv_zs, heb, ← hgb]; exact hrow
  obtain ⟨W3, hW3⟩ : ∃ W, W = w2.alloc (.cells #[.slice (some ⟨eb, 0, none⟩) n n, .int .i64 (-2), .int .i64 0, .slice none 0 0] 50) := ⟨_, rfl⟩
  have hb2 : Below U.heap.size U w2 := (Below.refl _ _).grown hgm (Nat.le_refl _) (fun q hq => nomatch hq)
  have hb3 : Below U.heap.size U W3 := by rw [hW3]; exact hb2.alloc hb2.size _
  have P3 : Hid (PW W3 bp eb gb n (zs n) (-2) 0 (.slice none 0 0)) := ⟨by rw [hW3, hbp]; exact Blk.new w2 _ _, by rw [hW3]; exact hrow'.alloc _, zs_len n⟩
  have HB03 := Lib.hid hb3
  have HA0 := Lib.hid (ha.below hbU)
  have HN := Lib.hid hn
  have HBWU := Lib.hid hbU
  have HBP := Lib.hid (show w.heap.size + 2 ≤ bp by have h5 := hb2.size; have h6 := HUS.out; omega)
  have HBP2 := Lib.hid (show U.heap.size ≤ bp by have h5 := hb2.size; omega)
  have HBAD : Hid (∀ g, badP bp eb g → U.heap.size ≤ g) := by
    have h5 := hb2.size
    rintro g (e | e) <;> omega
  have C1 := Lib.hid (current_any A n c L W3 hn (by omega) (HA0.out.below hb3))
  have HU := Lib.hid hU
  have HW3 := Lib.hid hW3
  have HEB := Lib.hid heb
  have HBPE := Lib.hid hbp
  have HGB := Lib.hid hgb
  have r0 := K0.out.cell 0 (v := .slice A n c) rfl
  have r03 := (K0.out.below hb3).cell 0 (v := .slice A n c) rfl
  obtain ⟨E, tk, st, hE⟩ : ∃ E tk st, (⟨E, tk, st⟩ : Pl) = repl L key mode := ⟨(repl L key mode).each, _, _, rfl⟩
  rw [← hE] at hpl
  rw [hpl] at htk0 hlen0 hent
  have htk : tk < n := by
    replace htk0 : tk < (L.length : Int) ∨ tk < 0 := htk0
    omega
  have HPL := Lib.hid hpl
  have HEN := Lib.hid hent
  have HEE := Lib.hid hE
  have han := (cur_some hcur).1
  rw [← hn] at han
  obtain ⟨b1, o1, hA1, hbb1, hc0, _⟩ := at_sk (ha.below hbU) (k := a) (by omega)
  obtain ⟨s, hs⟩ : ∃ s, s = (sk L a).1 := ⟨_, rfl⟩
  rw [← hs] at hc0 hsame
  have hd0 := (hb3.cell (p := ⟨b1, o1 + a * 2, none⟩) hbb1).trans hc0
  have HCU : Hid (oI (cur L) = (a : Int)) := by show _ = _; rw [hcur]; rfl
  have hsk := str_ne hkey
  have hst2 : (s.toList == key.toList) = false := M.str_no hsame
  clear hU hbU hn ha hgb heb hbp hrow hrow' hgm hW3 hb2 hb3 hst hpl htk0 hlen0 hent hE hcur hc0 hs hkey hsame
  subst hA1
  go_enter Try.func26, Try.ntmps26
  go_upto_region 1 with fail
  rw [← HU.out]
  go_upto_region 2 with fail
  clear hmk
  rw [← HEB.out, ← HBPE.out, ← HW3.out]
  clear r0
  go_wp2_with fail
  refine C1.out.mono ?_
  rintro e9 W4 ⟨rfl, hb4⟩
  rw [HCU.out]
  have P4 := Lib.hid (P3.out.below hb4)
  have B4 := Lib.hid (HB03.out.trans (hb4.mono HB03.out.size))
  have r04 := (K0.out.below B4.out).cell 0 (v := .slice (some ⟨b1, o1, none⟩) n c) rfl
  have hd4 := (hb4.cell (p := ⟨b1, o1 + a * 2, none⟩) (Nat.lt_of_lt_of_le hbb1 HB03.out.size)).trans hd0
  clear r03 C1 hd0
  go_wp2_with fail
  have CR := replace_any bp eb gb _ n c L key mode (.slice none 0 0) U W4 HN.out h1 HA0.out B4.out P4.out HBP2.out (HBAD.out _ (.inr rfl))
  rw [HCU.out] at CR
  refine CR.mono ?_
  rintro e9 X ⟨rfl, px, bx⟩
  rw [← HEE.out] at px
  have PX : Hid (PW X bp eb gb n E tk st (.slice none 0 0)) := px
  have BX := Lib.hid ((Beside.ofBelow hb4).trans bx)
  clear px bx hb4 r04 CR
  have BWX := Lib.hid (BX.out.below HB03.out HB03.out.size HBAD.out)
  have HAX := Lib.hid (HA0.out.below BWX.out)
  have r0 := (K0.out.below BWX.out).cell 0 (v := .slice (some ⟨b1, o1, none⟩) n c) rfl
  go_wp2_with fail
  refine (entering0_any bp eb gb _ n c L E tk st _ X HN.out (by omega) HAX.out PX.out htk).mono ?_
  rintro e9 Y ⟨rfl, hb⟩
  rw [HEN.out]
  have PY := Lib.hid (PX.out.below hb)
  have BWY := Lib.hid (BWX.out.trans (hb.mono BWX.out.size))
  clear hb PX BX BWX HAX r0
  obtain ⟨Z, hZ⟩ : ∃ W, W = Y := ⟨_, rfl⟩
  rw [← hZ] at PY BWY ⊢
  clear hZ
  have KR := Lib.hid (K1.out.below BWY.out)
  have KP := Lib.hid PY.out.blk
  have HRL : Hid (Z.ownsRow gb 3 1 (.slice none 0 0) (rel L ⟨E, tk, st⟩).length (nv (rel L ⟨E, tk, st⟩))) := by
    show World.ownsRow _ _ _ _ _ _ _
    unfold rel
    rw [if_pos HEN.out]
    exact World.ownsRow_nil _ _ _ _
  have HRE : Hid (Z.ownsRow gb 3 1 (.slice (some ⟨eb, 0, none⟩) n n) n (iv E)) := PY.out.row
  have HB0Z := Lib.hid BWY.out
  have hne : bp ≠ w.heap.size + 1 := by have := HBP.out; omega
  have q0 := KP.out.cell 0 (v := .slice (some ⟨eb, 0, none⟩) n n) rfl
  have q1 := KP.out.cell 1 (v := .int .i64 tk) rfl
  have q2 := KP.out.cell 2 (v := .int .i64 st) rfl
  have q3 := KP.out.cell 3 (v := .slice none 0 0) rfl
  have e0 := KR.out.cell 0 (v := .slice none 0 0) rfl
  have e1 := KR.out.cell 1 (v := .int .i64 0) rfl
  have e2 := KR.out.cell 2 (v := .int .i64 0) rfl
  have e3 := KR.out.cell 3 (v := .slice none 0 0) rfl
  have p0 := KR.out.frozen 0
  have p1 := KR.out.frozen 1
  have p2 := KR.out.frozen 2
  have p3 := KR.out.frozen 3
  go_wp2
  obtain ⟨V, hV⟩ : ∃ V, V = (((Z.setCell ⟨w.heap.size + 1, 0, none⟩ (.slice (some ⟨eb, 0, none⟩) n n)).setCell ⟨w.heap.size + 1, 1, none⟩ (.int .i64 tk)).setCell ⟨w.heap.size + 1, 2, none⟩ (.int .i64 st)).setCell ⟨w.heap.size + 1, 3, none⟩ (.slice none 0 0) := ⟨_, rfl⟩
  rw [← hV]
  have KV : Blk V (w.heap.size + 1) 50 #[.slice (some ⟨eb, 0, none⟩) n n, .int .i64 tk, .int .i64 st, .slice none 0 0] := by rw [hV]; exact sz4 KR.out
  have BV : Beside (fun g => g = w.heap.size + 1) Z V := by rw [hV]; exact ((((Beside.refl (fun g => g = w.heap.size + 1) Z).set (.inl rfl) 0 _).set (.inl rfl) 1 _).set (.inl rfl) 2 _).set (.inl rfl) 3 _
  have hgW : w.heap.size + 1 < gb := by have h8 := HUS.out; have h9 := HGB.out; omega
  have BB : Below w.heap.size w V := BV.below (HBWU.out.trans (HB0Z.out.mono HBWU.out.size)) (Nat.le_trans HBWU.out.size HB0Z.out.size) (fun g hg => by omega)
  have O1 := BV.keepsOwn HRE.out (fun q hq e => by have := own_from HRE.out q hq; omega)
  have O2 := BV.keepsOwn HRL.out (fun q hq e => by have := own_from HRL.out q hq; omega)
  clear hV
  exact bodyPost_ret (results_mid rfl _ _ (w.heap.size + 1) 0 [.slice (some ⟨eb, 0, none⟩) n n, .int .i64 tk, .int .i64 st, .slice none 0 0] _ rfl (blk_rangeS KV) Try.underlying50 rfl (by kernel_rfl)) rfl ⟨_, _, by rw [HPL.out], by rw [HPL.out]; exact own_mono O1 (by omega), by rw [HPL.out]; exact own_mono O2 (by omega), BB⟩
set_option maxHeartbeats 4000000 in
set_option maxRecDepth 100000 in
theorem sof_30 (a : Nat) (A : Option Addr) (n c : Nat) (L : List Sk) (key : ByteArray) (mode : Int) (w : World) (hn : n = L.length) (h1 : n ≤ 1000) (ha : At w A (scs L)) (hcur : cur L = some a) (hkey : ¬ key = ByteArray.empty) (hsame : (sk L a).1 = key) (hent : entQ L (plan0 L key mode) = false) :
    Calls Try.prog 26 #[.slice A n c, .string key, .int .i64 mode] w fun e w' => SofPost L key mode w n e w' := by
  have hst : stay L key = some a := by unfold stay; rw [hcur]; exact if_pos ⟨hkey, hsame⟩
  have hpl : plan0 L key mode = ⟨zs L.length, (a : Int), 0⟩ := by unfold plan0; rw [hst]
  have htk0 := plan0_take L key mode
  have hlen0 := plan0_len L key mode
  obtain ⟨U, hU⟩ : ∃ W, W = (w.alloc (.cells #[.slice A n c] 45)).alloc (.cells #[.slice none 0 0, .int .i64 0, .int .i64 0, .slice none 0 0] 50) := ⟨_, rfl⟩
  have hbU : Below w.heap.size w U := by rw [hU]; exact (below_alloc w _).alloc (by simp) _
  have K0 := Lib.hid (show Blk U w.heap.size 45 #[.slice A n c] by rw [hU]; exact (Blk.new w _ _).alloc _)
  have K1 := Lib.hid (show Blk U (w.heap.size + 1) 50 #[.slice none 0 0, .int .i64 0, .int .i64 0, .slice none 0 0] by rw [hU]; exact Blk.new' (w.alloc _) _ _ _ (by simp))
  have HUS : Hid (U.heap.size = w.heap.size + 2) := by show _ = _; rw [hU]; simp
  obtain ⟨gb, hgb⟩ : ∃ b, b = U.heap.size := ⟨_, rfl⟩
  obtain ⟨i0, hi, hz0, hz1, hz2⟩ := info_parts infoInt
  obtain ⟨w2, hmk, hrow, hgm⟩ := run_makeSlice_full (P := Try.prog) U U.heap.size 29 3 i0 (.int .i64 0) 1 Try.underlying29 hi hz0 hz1 .i64 .i64 n (by omega) (by rw [hz2]; omega) (by unfold maxLen; omega) (Nat.le_refl _)
  obtain ⟨eb, heb⟩ : ∃ b, b = U.heap.size := ⟨_, rfl⟩
  obtain ⟨bp, hbp⟩ : ∃ b, b = w2.heap.size := ⟨_, rfl⟩
  rw [← hgb] at hrow
  have hrow' : w2.ownsRow gb 3 1 (.slice (some ⟨eb, 0, none⟩) n n) n (iv (zs n)) := by rw [iv_zs, heb, ← hgb]; exact hrow
  obtain ⟨W3, hW3⟩ : ∃ W, W = w2.alloc (.cells #[.slice (some ⟨eb, 0, none⟩) n n, .int .i64 (-2), .int .i64 0, .slice none 0 0] 50) := ⟨_, rfl⟩
  have hb2 : Below U.heap.size U w2 := (Below.refl _ _).grown hgm (Nat.le_refl _) (fun q hq => nomatch hq)
  have hb3 : Below U.heap.size U W3 := by rw [hW3]; exact hb2.alloc hb2.size _
  have P3 : Hid (PW W3 bp eb gb n (zs n) (-2) 0 (.slice none 0 0)) := ⟨by rw [hW3, hbp]; exact Blk.new w2 _ _, by rw [hW3]; exact hrow'.alloc _, zs_len n⟩
  have HB03 := Lib.hid hb3
  have HA0 := Lib.hid (ha.below hbU)
  have HN := Lib.hid hn
  have HBWU := Lib.hid hbU
  have HBP := Lib.hid (show w.heap.size + 2 ≤ bp by have h5 := hb2.size; have h6 := HUS.out; omega)
  have HBP2 := Lib.hid (show U.heap.size ≤ bp by have h5 := hb2.size; omega)
  have HBAD : Hid (∀ g, badP bp eb g → U.heap.size ≤ g) := by
    have h5 := hb2.size
    rintro g (e | e) <;> omega
  have C1 := Lib.hid (current_any A n c L W3 hn (by omega) (HA0.out.below hb3))
  have HU := Lib.hid hU
  have HW3 := Lib.hid hW3
  have HEB := Lib.hid heb
  have HBPE := Lib.hid hbp
  have HGB := Lib.hid hgb
  have r0 := K0.out.cell 0 (v := .slice A n c) rfl
  have r03 := (K0.out.below hb3).cell 0 (v := .slice A n c) rfl
  obtain ⟨E, tk, st, hE⟩ : ∃ E tk st, (⟨E, tk, st⟩ : Pl) = ⟨zs n, (a : Int), 0⟩ := ⟨_, _, _, rfl⟩
  rw [← hn] at hpl
  rw [← hE] at hpl
  rw [hpl] at htk0 hlen0 hent
  have htk : tk < n := by
    replace htk0 : tk < (L.length : Int) ∨ tk < 0 := htk0
    omega
  have HPL := Lib.hid hpl
  have HEN := Lib.hid hent
  have HEE := Lib.hid hE
  have han := (cur_some hcur).1
  rw [← hn] at han
  obtain ⟨b1, o1, hA1, hbb1, hc0, _⟩ := at_sk (ha.below hbU) (k := a) (by omega)
  obtain ⟨s, hs⟩ : ∃ s, s = (sk L a).1 := ⟨_, rfl⟩
  rw [← hs] at hc0 hsame
  have hd0 := (hb3.cell (p := ⟨b1, o1 + a * 2, none⟩) hbb1).trans hc0
  have HCU : Hid (oI (cur L) = (a : Int)) := by show _ = _; rw [hcur]; rfl
  have hsk := str_ne hkey
  have hst2 : (s.toList == key.toList) = true := by rw [hsame]; simp
  clear hU hbU hn ha hgb heb hbp hrow hrow' hgm hW3 hb2 hb3 hst hpl htk0 hlen0 hent hE hcur hc0 hs hkey hsame
  subst hA1
  go_enter Try.func26, Try.ntmps26
  go_upto_region 1 with fail
  rw [← HU.out]
  go_upto_region 2 with fail
  clear hmk
  rw [← HEB.out, ← HBPE.out, ← HW3.out]
  clear r0
  go_wp2_with fail
  refine C1.out.mono ?_
  rintro e9 W4 ⟨rfl, hb4⟩
  rw [HCU.out]
  have P4 := Lib.hid (P3.out.below hb4)
  have B4 := Lib.hid (HB03.out.trans (hb4.mono HB03.out.size))
  have r04 := (K0.out.below B4.out).cell 0 (v := .slice (some ⟨b1, o1, none⟩) n c) rfl
  have hd4 := (hb4.cell (p := ⟨b1, o1 + a * 2, none⟩) (Nat.lt_of_lt_of_le hbb1 HB03.out.size)).trans hd0
  clear r03 C1 hd0
  have e1 := P4.out.blk.cell 1 (v := .int .i64 (-2)) rfl
  have p1 := P4.out.blk.frozen 1
  go_upto_region 6 with fail
  obtain ⟨X, hX⟩ : ∃ W, W = W4.setCell ⟨bp, 1, none⟩ (.int .i64 (a : Int)) := ⟨_, rfl⟩
  rw [← hX]
  have PX : Hid (PW X bp eb gb n E tk st (.slice none 0 0)) := by
    have h9 := P4.out.setT (a : Int)
    rw [← hX] at h9
    have h8 := HEE.out
    injection h8 with h7 h6 h5
    subst h7 h6 h5
    exact h9
  have BX : Hid (Beside (badP bp eb) W3 X) := by show Beside _ _ _; rw [hX]; exact (Beside.ofBelow hb4).set (.inl (.inl rfl)) 1 _
  clear hX e1 p1 hb4 r04
  have BWX := Lib.hid (BX.out.below HB03.out HB03.out.size HBAD.out)
  have HAX := Lib.hid (HA0.out.below BWX.out)
  have r0 := (K0.out.below BWX.out).cell 0 (v := .slice (some ⟨b1, o1, none⟩) n c) rfl
  go_wp2_with fail
  refine (entering0_any bp eb gb _ n c L E tk st _ X HN.out (by omega) HAX.out PX.out htk).mono ?_
  rintro e9 Y ⟨rfl, hb⟩
  rw [HEN.out]
  have PY := Lib.hid (PX.out.below hb)
  have BWY := Lib.hid (BWX.out.trans (hb.mono BWX.out.size))
  clear hb PX BX BWX HAX r0
  have r0 := (K0.out.below BWY.out).cell 0 (v := .slice (some ⟨b1, o1, none⟩) n c) rfl
  have HAY := Lib.hid (HA0.out.below BWY.out)
  have KOY := Lib.hid (K0.out.below BWY.out)
  go_wp2_with fail
  refine (where_sof n bp w.heap.size (relQ L E) Y (by omega) (fun W i hi hb => sof1_any i bp w.heap.size eb _ n c L E gb tk st _ W hi HN.out ((KOY.out.below hb).cell 0 rfl) (PY.out.below hb) (HAY.out.below hb))).mono ?_
  rintro e9 Y2 ⟨v5, rfl, ho5, hb5⟩
  obtain ⟨A5, c5, rfl, _, _⟩ := own_slice ho5
  have PY2 := Lib.hid (PY.out.below hb5)
  have BW2 := Lib.hid (BWY.out.trans (hb5.mono BWY.out.size))
  have hsY := Lib.hid (show gb ≤ Y.heap.size by have h1 := BWY.out.size; have h2 := HGB.out; omega)
  have HO5 := Lib.hid (own_mono ho5 hsY.out)
  have HNB := Lib.hid (fun q (hq : (Value.slice A5 (wh n (relQ L E)).length c5).ownBlock = some q) => (own_from ho5 q hq))
  have hbpY : bp < Y.heap.size := PY.out.blk.lt
  have hebY : eb < Y.heap.size := (PY.out.row.lt _ rfl).2
  clear ho5 hb5 PY BWY r0 HAY KOY
  have e3 := PY2.out.blk.cell 3 (v := .slice none 0 0) rfl
  have p3 := PY2.out.blk.frozen 3
  go_upto_region 8 with fail
  obtain ⟨Z, hZ⟩ : ∃ W, W = Y2.setCell ⟨bp, 3, none⟩ (.slice A5 (wh n (relQ L E)).length c5) := ⟨_, rfl⟩
  rw [← hZ]
  have hbs : Beside (fun g => g = bp) Y2 Z := by rw [hZ]; exact (Beside.refl (fun g => g = bp) Y2).set (.inl rfl) 3 _
  have KP := Lib.hid (show Blk Z bp 50 #[.slice (some ⟨eb, 0, none⟩) n n, .int .i64 tk, .int .i64 st, .slice A5 (wh n (relQ L E)).length c5] by rw [hZ]; exact PY2.out.blk.set 3 _)
  have HB0Z := Lib.hid (hbs.below BW2.out BW2.out.size (fun g hg => by subst hg; exact HBP2.out))
  have HRE := Lib.hid (hbs.keepsOwn PY2.out.row (fun q hq e => by injection hq with hq; simp only at hq; exact PY2.out.ne (hq.trans e)))
  have HRL : Hid (Z.ownsRow gb 3 1 (.slice A5 (wh n (relQ L E)).length c5) (rel L ⟨E, tk, st⟩).length (nv (rel L ⟨E, tk, st⟩))) := by
    show World.ownsRow _ _ _ _ _ _ _
    unfold rel
    rw [if_neg (by rw [HEN.out]; simp), show L.length = n from HN.out.symm]
    exact hbs.keepsOwn HO5.out (fun q hq e => by have := HNB.out q hq; omega)
  have KR := Lib.hid (K1.out.below HB0Z.out)
  have hne : bp ≠ w.heap.size + 1 := by have := HBP.out; omega
  clear hZ hbs e3 p3 PY2 HO5
  have q0 := KP.out.cell 0 (v := .slice (some ⟨eb, 0, none⟩) n n) rfl
  have q1 := KP.out.cell 1 (v := .int .i64 tk) rfl
  have q2 := KP.out.cell 2 (v := .int .i64 st) rfl
  have q3 := KP.out.cell 3 (v := .slice A5 (wh n (relQ L E)).length c5) rfl
  have e0 := KR.out.cell 0 (v := .slice none 0 0) rfl
  have e1 := KR.out.cell 1 (v := .int .i64 0) rfl
  have e2 := KR.out.cell 2 (v := .int .i64 0) rfl
  have e3 := KR.out.cell 3 (v := .slice none 0 0) rfl
  have p0 := KR.out.frozen 0
  have p1 := KR.out.frozen 1
  have p2 := KR.out.frozen 2
  have p3 := KR.out.frozen 3
  go_wp2
  obtain ⟨V, hV⟩ : ∃ V, V = (((Z.setCell ⟨w.heap.size + 1, 0, none⟩ (.slice (some ⟨eb, 0, none⟩) n n)).setCell ⟨w.heap.size + 1, 1, none⟩ (.int .i64 tk)).setCell ⟨w.heap.size + 1, 2, none⟩ (.int .i64 st)).setCell ⟨w.heap.size + 1, 3, none⟩ (.slice A5 (wh n (relQ L E)).length c5) := ⟨_, rfl⟩
  rw [← hV]
  have KV : Blk V (w.heap.size + 1) 50 #[.slice (some ⟨eb, 0, none⟩) n n, .int .i64 tk, .int .i64 st, .slice A5 (wh n (relQ L E)).length c5] := by rw [hV]; exact sz4 KR.out
  have BV : Beside (fun g => g = w.heap.size + 1) Z V := by rw [hV]; exact ((((Beside.refl (fun g => g = w.heap.size + 1) Z).set (.inl rfl) 0 _).set (.inl rfl) 1 _).set (.inl rfl) 2 _).set (.inl rfl) 3 _
  have hgW : w.heap.size + 1 < gb := by have h8 := HUS.out; have h9 := HGB.out; omega
  have BB : Below w.heap.size w V := BV.below (HBWU.out.trans (HB0Z.out.mono HBWU.out.size)) (Nat.le_trans HBWU.out.size HB0Z.out.size) (fun g hg => by omega)
  have O1 := BV.keepsOwn HRE.out (fun q hq e => by have := own_from HRE.out q hq; omega)
  have O2 := BV.keepsOwn HRL.out (fun q hq e => by have := own_from HRL.out q hq; omega)
  clear hV
  exact bodyPost_ret (results_mid rfl _ _ (w.heap.size + 1) 0 [.slice (some ⟨eb, 0, none⟩) n n, .int .i64 tk, .int .i64 st, .slice A5 (wh n (relQ L E)).length c5] _ rfl (blk_rangeS KV) Try.underlying50 rfl (by kernel_rfl)) rfl ⟨_, _, by rw [HPL.out], by rw [HPL.out]; exact own_mono O1 (by omega), by rw [HPL.out]; exact own_mono O2 (by omega), BB⟩
set_option maxHeartbeats 4000000 in
set_option maxRecDepth 100000 in
theorem sof_31 (a : Nat) (A : Option Addr) (n c : Nat) (L : List Sk) (key : ByteArray) (mode : Int) (w : World) (hn : n = L.length) (h1 : n ≤ 1000) (ha : At w A (scs L)) (hcur : cur L = some a) (hkey : ¬ key = ByteArray.empty) (hsame : (sk L a).1 = key) (hent : entQ L (plan0 L key mode) = true) :
    Calls Try.prog 26 #[.slice A n c, .string key, .int .i64 mode] w fun e w' => SofPost L key mode w n e w' := by
  have hst : stay L key = some a := by unfold stay; rw [hcur]; exact if_pos ⟨hkey, hsame⟩
  have hpl : plan0 L key mode = ⟨zs L.length, (a : Int), 0⟩ := by unfold plan0; rw [hst]
  have htk0 := plan0_take L key mode
  have hlen0 := plan0_len L key mode
  obtain ⟨U, hU⟩ : ∃ W, W = (w.alloc (.cells #[.slice A n c] 45)).alloc (.cells #[.slice none 0 0, .int .i64 0, .int .i64 0, .slice none 0 0] 50) := ⟨_, rfl⟩
  have hbU : Below w.heap.size w U := by rw [hU]; exact (below_alloc w _).alloc (by simp) _
  have K0 := Lib.hid (show Blk U w.heap.size 45 #[.slice A n c] by rw [hU]; exact (Blk.new w _ _).alloc _)
  have K1 := Lib.hid (show Blk U (w.heap.size + 1) 50 #[.slice none 0 0, .int .i64 0, .int .i64 0, .slice none 0 0] by rw [hU]; exact Blk.new' (w.alloc _) _ _ _ (by simp))
  have HUS : Hid (U.heap.size = w.heap.size + 2) := by show _ = _; rw [hU]; simp
  obtain ⟨gb, hgb⟩ : ∃ b, b = U.heap.size := ⟨_, rfl⟩
  obtain ⟨i0, hi, hz0, hz1, hz2⟩ := info_parts infoInt
  obtain ⟨w2, hmk, hrow, hgm⟩ := run_makeSlice_full (P := Try.prog) U U.heap.size 29 3 i0 (.int .i64 0) 1 Try.underlying29 hi hz0 hz1 .i64 .i64 n (by omega) (by rw [hz2]; omega) (by unfold maxLen; omega) (Nat.le_refl _)
  obtain ⟨eb, heb⟩ : ∃ b, b = U.heap.size := ⟨_, rfl⟩
  obtain ⟨bp, hbp⟩ : ∃ b, b = w2.heap.size := ⟨_, rfl⟩
  rw [← hgb] at hrow
  have hrow' : w2.ownsRow gb 3 1 (.slice (some ⟨eb, 0, none⟩) n n) n (iv (zs n)) := by rw [iv_zs, heb, ← hgb]; exact hrow
  obtain ⟨W3, hW3⟩ : ∃ W, W = w2.alloc (.cells #[.slice (some ⟨eb, 0, none⟩) n n, .int .i64 (-2), .int .i64 0, .slice none 0 0] 50) := ⟨_, rfl⟩
  have hb2 : Below U.heap.size U w2 := (Below.refl _ _).grown hgm (Nat.le_refl _) (fun q hq => nomatch hq)
  have hb3 : Below U.heap.size U W3 := by rw [hW3]; exact hb2.alloc hb2.size _
  have P3 : Hid (PW W3 bp eb gb n (zs n) (-2) 0 (.slice none 0 0)) := ⟨by rw [hW3, hbp]; exact Blk.new w2 _ _, by rw [hW3]; exact hrow'.alloc _, zs_len n⟩
  have HB03 := Lib.hid hb3
  have HA0 := Lib.hid (ha.below hbU)
  have HN := Lib.hid hn
  have HBWU := Lib.hid hbU
  have HBP := Lib.hid (show w.heap.size + 2 ≤ bp by have h5 := hb2.size; have h6 := HUS.out; omega)
  have HBP2 := Lib.hid (show U.heap.size ≤ bp by have h5 := hb2.size; omega)
  have HBAD : Hid (∀ g, badP bp eb g → U.heap.size ≤ g) := by
    have h5 := hb2.size
    rintro g (e | e) <;> omega
  have C1 := Lib.hid (current_any A n c L W3 hn (by omega) (HA0.out.below hb3))
  have HU := Lib.hid hU
  have HW3 := Lib.hid hW3
  have HEB := Lib.hid heb
  have HBPE := Lib.hid hbp
  have HGB := Lib.hid hgb
  have r0 := K0.out.cell 0 (v := .slice A n c) rfl
  have r03 := (K0.out.below hb3).cell 0 (v := .slice A n c) rfl
  obtain ⟨E, tk, st, hE⟩ : ∃ E tk st, (⟨E, tk, st⟩ : Pl) = ⟨zs n, (a : Int), 0⟩ := ⟨_, _, _, rfl⟩
  rw [← hn] at hpl
  rw [← hE] at hpl
  rw [hpl] at htk0 hlen0 hent
  have htk : tk < n := by
    replace htk0 : tk < (L.length : Int) ∨ tk < 0 := htk0
    omega
  have HPL := Lib.hid hpl
  have HEN := Lib.hid hent
  have HEE := Lib.hid hE
  have han := (cur_some hcur).1
  rw [← hn] at han
  obtain ⟨b1, o1, hA1, hbb1, hc0, _⟩ := at_sk (ha.below hbU) (k := a) (by omega)
  obtain ⟨s, hs⟩ : ∃ s, s = (sk L a).1 := ⟨_, rfl⟩
  rw [← hs] at hc0 hsame
  have hd0 := (hb3.cell (p := ⟨b1, o1 + a * 2, none⟩) hbb1).trans hc0
  have HCU : Hid (oI (cur L) = (a : Int)) := by show _ = _; rw [hcur]; rfl
  have hsk := str_ne hkey
  have hst2 : (s.toList == key.toList) = true := by rw [hsame]; simp
  clear hU hbU hn ha hgb heb hbp hrow hrow' hgm hW3 hb2 hb3 hst hpl htk0 hlen0 hent hE hcur hc0 hs hkey hsame
  subst hA1
  go_enter Try.func26, Try.ntmps26
  go_upto_region 1 with fail
  rw [← HU.out]
  go_upto_region 2 with fail
  clear hmk
  rw [← HEB.out, ← HBPE.out, ← HW3.out]
  clear r0
  go_wp2_with fail
  refine C1.out.mono ?_
  rintro e9 W4 ⟨rfl, hb4⟩
  rw [HCU.out]
  have P4 := Lib.hid (P3.out.below hb4)
  have B4 := Lib.hid (HB03.out.trans (hb4.mono HB03.out.size))
  have r04 := (K0.out.below B4.out).cell 0 (v := .slice (some ⟨b1, o1, none⟩) n c) rfl
  have hd4 := (hb4.cell (p := ⟨b1, o1 + a * 2, none⟩) (Nat.lt_of_lt_of_le hbb1 HB03.out.size)).trans hd0
  clear r03 C1 hd0
  have e1 := P4.out.blk.cell 1 (v := .int .i64 (-2)) rfl
  have p1 := P4.out.blk.frozen 1
  go_upto_region 6 with fail
  obtain ⟨X, hX⟩ : ∃ W, W = W4.setCell ⟨bp, 1, none⟩ (.int .i64 (a : Int)) := ⟨_, rfl⟩
  rw [← hX]
  have PX : Hid (PW X bp eb gb n E tk st (.slice none 0 0)) := by
    have h9 := P4.out.setT (a : Int)
    rw [← hX] at h9
    have h8 := HEE.out
    injection h8 with h7 h6 h5
    subst h7 h6 h5
    exact h9
  have BX : Hid (Beside (badP bp eb) W3 X) := by show Beside _ _ _; rw [hX]; exact (Beside.ofBelow hb4).set (.inl (.inl rfl)) 1 _
  clear hX e1 p1 hb4 r04
  have BWX := Lib.hid (BX.out.below HB03.out HB03.out.size HBAD.out)
  have HAX := Lib.hid (HA0.out.below BWX.out)
  have r0 := (K0.out.below BWX.out).cell 0 (v := .slice (some ⟨b1, o1, none⟩) n c) rfl
  go_wp2_with fail
  refine (entering0_any bp eb gb _ n c L E tk st _ X HN.out (by omega) HAX.out PX.out htk).mono ?_
  rintro e9 Y ⟨rfl, hb⟩
  rw [HEN.out]
  have PY := Lib.hid (PX.out.below hb)
  have BWY := Lib.hid (BWX.out.trans (hb.mono BWX.out.size))
  clear hb PX BX BWX HAX r0
  obtain ⟨Z, hZ⟩ : ∃ W, W = Y := ⟨_, rfl⟩
  rw [← hZ] at PY BWY ⊢
  clear hZ
  have KR := Lib.hid (K1.out.below BWY.out)
  have KP := Lib.hid PY.out.blk
  have HRL : Hid (Z.ownsRow gb 3 1 (.slice none 0 0) (rel L ⟨E, tk, st⟩).length (nv (rel L ⟨E, tk, st⟩))) := by
    show World.ownsRow _ _ _ _ _ _ _
    unfold rel
    rw [if_pos HEN.out]
    exact World.ownsRow_nil _ _ _ _
  have HRE : Hid (Z.ownsRow gb 3 1 (.slice (some ⟨eb, 0, none⟩) n n) n (iv E)) := PY.out.row
  have HB0Z := Lib.hid BWY.out
  have hne : bp ≠ w.heap.size + 1 := by have := HBP.out; omega
  have q0 := KP.out.cell 0 (v := .slice (some ⟨eb, 0, none⟩) n n) rfl
  have q1 := KP.out.cell 1 (v := .int .i64 tk) rfl
  have q2 := KP.out.cell 2 (v := .int .i64 st) rfl
  have q3 := KP.out.cell 3 (v := .slice none 0 0) rfl
  have e0 := KR.out.cell 0 (v := .slice none 0 0) rfl
  have e1 := KR.out.cell 1 (v := .int .i64 0) rfl
  have e2 := KR.out.cell 2 (v := .int .i64 0) rfl
  have e3 := KR.out.cell 3 (v := .slice none 0 0) rfl
  have p0 := KR.out.frozen 0
  have p1 := KR.out.frozen 1
  have p2 := KR.out.frozen 2
  have p3 := KR.out.frozen 3
  go_wp2
  obtain ⟨V, hV⟩ : ∃ V, V = (((Z.setCell ⟨w.heap.size + 1, 0, none⟩ (.slice (some ⟨eb, 0, none⟩) n n)).setCell ⟨w.heap.size + 1, 1, none⟩ (.int .i64 tk)).setCell ⟨w.heap.size + 1, 2, none⟩ (.int .i64 st)).setCell ⟨w.heap.size + 1, 3, none⟩ (.slice none 0 0) := ⟨_, rfl⟩
  rw [← hV]
  have KV : Blk V (w.heap.size + 1) 50 #[.slice (some ⟨eb, 0, none⟩) n n, .int .i64 tk, .int .i64 st, .slice none 0 0] := by rw [hV]; exact sz4 KR.out
  have BV : Beside (fun g => g = w.heap.size + 1) Z V := by rw [hV]; exact ((((Beside.refl (fun g => g = w.heap.size + 1) Z).set (.inl rfl) 0 _).set (.inl rfl) 1 _).set (.inl rfl) 2 _).set (.inl rfl) 3 _
  have hgW : w.heap.size + 1 < gb := by have h8 := HUS.out; have h9 := HGB.out; omega
  have BB : Below w.heap.size w V := BV.below (HBWU.out.trans (HB0Z.out.mono HBWU.out.size)) (Nat.le_trans HBWU.out.size HB0Z.out.size) (fun g hg => by omega)
  have O1 := BV.keepsOwn HRE.out (fun q hq e => by have := own_from HRE.out q hq; omega)
  have O2 := BV.keepsOwn HRL.out (fun q hq e => by have := own_from HRL.out q hq; omega)
  clear hV
  exact bodyPost_ret (results_mid rfl _ _ (w.heap.size + 1) 0 [.slice (some ⟨eb, 0, none⟩) n n, .int .i64 tk, .int .i64 st, .slice none 0 0] _ rfl (blk_rangeS KV) Try.underlying50 rfl (by kernel_rfl)) rfl ⟨_, _, by rw [HPL.out], by rw [HPL.out]; exact own_mono O1 (by omega), by rw [HPL.out]; exact own_mono O2 (by omega), BB⟩
theorem sof_any (A : Option Addr) (n c : Nat) (L : List Sk) (key : ByteArray) (mode : Int) (w : World) (hn : n = L.length) (h1 : n ≤ 1000) (ha : At w A (scs L)) :
    Calls Try.prog 26 #[.slice A n c, .string key, .int .i64 mode] w fun e w' => SofPost L key mode w n e w' := by
  obtain hcur | ⟨a, hcur⟩ : cur L = none ∨ ∃ a, cur L = some a := by
    cases cur L with
    | none => exact .inl rfl
    | some a => exact .inr ⟨a, rfl⟩
  · cases hent : entQ L (plan0 L key mode) with
    | true => exact sof_01 0 A n c L key mode w hn h1 ha hcur hent
    | false => exact sof_00 0 A n c L key mode w hn h1 ha hcur hent
  · by_cases hkey : key = ByteArray.empty
    · cases hent : entQ L (plan0 L key mode) with
      | true => exact sof_11 a A n c L key mode w hn h1 ha hcur hkey hent
      | false => exact sof_10 a A n c L key mode w hn h1 ha hcur hkey hent
    · by_cases hsame : (sk L a).1 = key
      · cases hent : entQ L (plan0 L key mode) with
        | true => exact sof_31 a A n c L key mode w hn h1 ha hcur hkey hsame hent
        | false => exact sof_30 a A n c L key mode w hn h1 ha hcur hkey hsame hent
      · cases hent : entQ L (plan0 L key mode) with
        | true => exact sof_21 a A n c L key mode w hn h1 ha hcur hkey hsame hent
        | false => exact sof_20 a A n c L key mode w hn h1 ha hcur hkey hsame hent
end Go.Proofs.Ytfapghekakdpgaa
