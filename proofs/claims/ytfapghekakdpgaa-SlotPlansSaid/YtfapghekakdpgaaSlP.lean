/- SlotPlans. -/
import Derived.Test.YtfapghekakdpgaaSlRO
import Derived.Test.YtfapghekakdpgaaSlA
namespace Go.Proofs.Ytfapghekakdpgaa
open Go.RowKit Gr Sl
open M (cutS)
set_option linter.unusedVariables false
set_option linter.unusedSimpArgs false
set_option maxHeartbeats 16000000 in
set_option maxRecDepth 100000 in
theorem slotPlans_any (A : Option Addr) (n c : Nat) (L : List Sk) (key : ByteArray) (mode : Int) (w : World) (hn : n = L.length) (hb : n ≤ maxLen) (ha : At w A (scs L)) :
    Calls Try.prog 6 #[.slice A n c, .string key, .int .i64 mode] w fun e w' => e = .returned (.bool true) ∧ Below w.heap.size w w' := by
  have C1 := Lib.hid (fun W (hW : Below w.heap.size w W) => sown_any A n c L W hn hb (ha.below hW))
  have LX : Hid (min 15 n = (sownK L 15).length) := by show _ = _; rw [sownK_len, hn]
  have hx1 : min 15 n ≤ 15 := by omega
  generalize sownK L 15 = X at *
  generalize min 15 n = N at *
  obtain ⟨kq, CC⟩ : ∃ kq, ∀ W, Calls Try.prog 25 #[.string key, .int .i64 20] W fun e w' => e = .returned (.string kq) ∧ W = w' := ⟨_, fun W => cut_any key 20 W (by omega) (by omega)⟩
  obtain ⟨E, tk, st, R, C3, C4, hE, hR⟩ : ∃ E tk st R,
      (∀ A c W, At W A (scs X) → Calls Try.prog 26 #[.slice A N c, .string kq, .int .i64 mode] W fun e w' => ∃ v1 v2, e = .returned (.agg #[v1, .int .i64 tk, .int .i64 st, v2]) ∧ w'.ownsRow W.heap.size 3 1 v1 N (iv E) ∧ w'.ownsRow W.heap.size 3 1 v2 R.length (nv R) ∧ Below W.heap.size W w') ∧
      (∀ A c W, At W A (scs X) → Calls Try.prog 27 #[.slice A N c, .string kq, .int .i64 mode] W fun e w' => ∃ v1 v2, e = .returned (.agg #[v1, .int .i64 tk, .int .i64 st, v2]) ∧ w'.ownsRow W.heap.size 3 1 v1 N (iv E) ∧ w'.ownsRow W.heap.size 3 1 v2 R.length (nv R) ∧ Below W.heap.size W w') ∧
      N = E.length ∧ R.length ≤ N := by
    refine ⟨(plan0 X kq mode).each, (plan0 X kq mode).take, (plan0 X kq mode).start, rel X (plan0 X kq mode), fun A c W ha => sof_any A N c X kq mode W LX.out (by omega) ha, fun A c W ha => rof_any A N c X kq mode W LX.out (by omega) ha, ?_, ?_⟩
    · rw [plan0_len]; exact LX.out
    · unfold rel
      split
      · simp
      · rw [LX.out]; exact wh_le _ _
  obtain ⟨RN, hRN⟩ : ∃ y, y = R.length := ⟨_, rfl⟩
  rw [← hRN] at C3 C4 hR
  have C3 := Lib.hid C3
  have C4 := Lib.hid C4
  have CC := Lib.hid CC
  have HE := Lib.hid hE
  have HRN := Lib.hid hRN
  clear hn hb ha hE hRN
  go_enter Try.func6, Try.ntmps6
  go_wp2_with fail
  refine (awake26_any _).mono ?_
  rintro e w1 ⟨rfl, hb1⟩
  have HB1 := Lib.hid hb1
  clear hb1
  go_wp2_with fail
  refine (C1.out _ HB1.out).mono ?_
  rintro e w2 ⟨v5, v6, rfl, ho5, ho6, hb2⟩
  obtain ⟨A5, c5, rfl, hc5, hm5⟩ := own_slice ho5
  obtain ⟨A6, c6, rfl, hc6, hm6⟩ := own_slice ho6
  have T5 := Lib.hid (At.own ho5)
  have T6 := Lib.hid (At.own ho6)
  have HB2 := Lib.hid (HB1.out.trans (hb2.mono HB1.out.size))
  clear ho5 ho6 hb2 C1
  go_wp2_with fail
  refine (CC.out _).mono ?_
  rintro e w2' ⟨rfl, rfl⟩
  go_wp2_with fail
  refine (C3.out A5 c5 _ T5.out).mono ?_
  rintro e w3 ⟨v1, v2, rfl, o1, o2, hb3⟩
  obtain ⟨EA, ec, rfl, _, _⟩ := own_slice o1
  obtain ⟨RA, rc, rfl, _, _⟩ := own_slice o2
  have HB3 := Lib.hid (HB2.out.trans (hb3.mono HB2.out.size))
  have TE := Lib.hid (At.own o1)
  have TR := Lib.hid (At.own o2)
  have C4 := Lib.hid (C4.out A6 c6 w3 (T6.out.below hb3))
  clear o1 o2 hb3 C3
  go_wp2_with fail
  refine C4.out.mono ?_
  rintro e w4 ⟨v3, v4, rfl, o3, o4, hb4⟩
  obtain ⟨FA, fc, rfl, _, _⟩ := own_slice o3
  obtain ⟨SA, sc', rfl, _, _⟩ := own_slice o4
  have HB4 := Lib.hid (HB3.out.trans (hb4.mono HB3.out.size))
  obtain ⟨bp, hbp⟩ : ∃ b, b = w4.heap.size := ⟨_, rfl⟩
  obtain ⟨bq, hbq⟩ : ∃ b, b = w4.heap.size + 1 := ⟨_, rfl⟩
  obtain ⟨W4, hW4⟩ : ∃ W, W = (w4.alloc (.cells #[.slice EA N ec, .int .i64 tk, .int .i64 st, .slice RA RN rc] 50)).alloc (.cells #[.slice FA N fc, .int .i64 tk, .int .i64 st, .slice SA RN sc'] 52) := ⟨_, rfl⟩
  have hb34 : Below w4.heap.size w4 W4 := by rw [hW4]; exact (below_alloc w4 _).alloc (by simp) _
  have KP := Lib.hid (show Blk W4 bp 50 #[.slice EA N ec, .int .i64 tk, .int .i64 st, .slice RA RN rc] by rw [hW4, hbp]; exact (Blk.new w4 _ _).alloc _)
  have KQ := Lib.hid (show Blk W4 bq 52 #[.slice FA N fc, .int .i64 tk, .int .i64 st, .slice SA RN sc'] by rw [hW4, hbq]; exact Blk.new' (w4.alloc _) _ _ _ (by simp))
  have TE4 := Lib.hid ((TE.out.below hb4).below hb34)
  have TR4 := Lib.hid ((TR.out.below hb4).below hb34)
  have TF4 := Lib.hid ((At.own o3).below hb34)
  have TS4 := Lib.hid ((At.own o4).below hb34)
  have HB5 := Lib.hid (HB4.out.trans (hb34.mono HB4.out.size))
  have HW4 := Lib.hid hW4
  have HBP := Lib.hid hbp
  have HBQ := Lib.hid hbq
  clear o3 o4 hb4 hW4 hbp hbq hb34 C4 T5 T6 HB1 HB2 HB3 TE TR
  go_upto_region 6 with fail
  rw [← HW4.out, ← HBQ.out, ← HBP.out]
  have k0 := KP.out.cell 0 (v := .slice EA N ec) rfl
  have j0 := KQ.out.cell 0 (v := .slice FA N fc) rfl
  go_wp2_with fail
  refine (numbersT EA FA N ec N fc E _ HE.out HE.out (by omega) TE4.out TF4.out).mono ?_
  rintro e W5 ⟨rfl, hb5⟩
  have HB6 := Lib.hid (HB5.out.trans (hb5.mono HB5.out.size))
  have TR5 := Lib.hid (TR4.out.below hb5)
  have TS5 := Lib.hid (TS4.out.below hb5)
  have k1 := (KP.out.below hb5).cell 1 (v := .int .i64 tk) rfl
  have j1 := (KQ.out.below hb5).cell 1 (v := .int .i64 tk) rfl
  have k2 := (KP.out.below hb5).cell 2 (v := .int .i64 st) rfl
  have j2 := (KQ.out.below hb5).cell 2 (v := .int .i64 st) rfl
  have k3 := (KP.out.below hb5).cell 3 (v := .slice RA RN rc) rfl
  have j3 := (KQ.out.below hb5).cell 3 (v := .slice SA RN sc') rfl
  have q1 : (tk == tk) = true := by simp
  have q2 : (st == st) = true := by simp
  clear hb5 k0 j0
  go_wp2_with fail
  refine (numbersV RA SA RN rc RN sc' R _ HRN.out HRN.out (by omega) TR5.out TS5.out).mono ?_
  rintro e W6 ⟨rfl, hb6⟩
  have HB7 := Lib.hid (HB6.out.trans (hb6.mono HB6.out.size))
  clear hb6
  go_wp2
  go_ret
  exact ⟨rfl, HB7.out⟩
theorem slotPlans_arg (w : World) (v0 v1 v2 : Value) (h0 : SksArg w v0) (h1 : TextArg w v1) (h2 : IntArg w v2) :
    Calls Try.prog 6 #[v0, v1, v2] w fun e w' => e = .returned (.bool true) ∧ Below w.heap.size w w' := by
  obtain ⟨A, n, c, L, rfl, hL⟩ := h0
  obtain ⟨s, rfl, _⟩ := h1
  obtain ⟨m, rfl, _⟩ := h2
  obtain ⟨e0, e1, e2, e3, e4, _⟩ := hL
  exact slotPlans_any A n c L s m w e0 (by omega) e3
end Go.Proofs.Ytfapghekakdpgaa
