/- SlotOrder. -/
import Derived.Test.YtfapghekakdpgaaSlMO
import Derived.Test.YtfapghekakdpgaaSlR
import Derived.Handy
namespace Go.Proofs.Ytfapghekakdpgaa
open Go.RowKit Gr Sl
open M (cutS)
set_option linter.unusedVariables false
set_option linter.unusedSimpArgs false
/-- all that counts of a plan. -/
theorem plan_facts (N : Nat) (X : List Sk) (kq : ByteArray) (mode : Int) (hn : N = X.length) (h1 : N ≤ 999) : ∃ E tk st R Y,
    (∀ A c W, At W A (scs X) → Calls Try.prog 26 #[.slice A N c, .string kq, .int .i64 mode] W fun e w' => ∃ v1 v2, e = .returned (.agg #[v1, .int .i64 tk, .int .i64 st, v2]) ∧ w'.ownsRow W.heap.size 3 1 v1 N (iv E) ∧ w'.ownsRow W.heap.size 3 1 v2 R.length (nv R) ∧ Below W.heap.size W w') ∧
    N = E.length ∧ R.length ≤ N ∧ (st = 0 ∨ st = 1 ∨ st = 2) ∧ Y = aftL X kq E tk st R ∧ Y.length ≤ N + 1 ∧ (st ≠ 0 → kq ≠ ByteArray.empty) ∧
    (Right X → Right Y ∧ ((kq = ByteArray.empty ∧ cur Y = none) ∨ (kq ≠ ByteArray.empty ∧ ∃ a, cur Y = some a ∧ a < Y.length ∧ (sk Y a).1 = kq)) ∧ (mode = 1 → st = 1 → Y.length ≤ 1) ∧ (mode = 2 → st = 1 → ∀ a, cur X = some a → ∀ k, k < Y.length → (sk Y k).2 = 5 → (sk Y k).1 ≠ (sk X a).1)) := by
  refine ⟨(plan0 X kq mode).each, (plan0 X kq mode).take, (plan0 X kq mode).start, rel X (plan0 X kq mode), aft0 X kq mode, fun A c W ha => sof_any A N c X kq mode W hn (by omega) ha, ?_, ?_, plan0_start _ _ _, rfl, ?_, start_key, fun hr => ⟨(aft0_live hr kq mode).2.2, aft0_cur hr kq mode, fun a b => out_in hr a b, fun a b x hx k hk h5 => in_out hr a b hx (sk_mem hk) h5⟩⟩
  · rw [plan0_len]; exact hn
  · unfold rel
    split
    · simp
    · rw [hn]; exact wh_le _ _
  · rw [hn]; exact aft0_len X kq mode
set_option maxHeartbeats 16000000 in
set_option maxRecDepth 100000 in
theorem slotOrder_any (A : Option Addr) (n c : Nat) (L : List Sk) (key : ByteArray) (mode : Int) (w : World) (hn : n = L.length) (hb : n ≤ maxLen) (ha : At w A (scs L)) :
    Calls Try.prog 8 #[.slice A n c, .string key, .int .i64 mode] w fun e w' => e = .returned (.bool true) ∧ Below w.heap.size w w' := by
  have C1 := Lib.hid (fun W (hW : Below w.heap.size w W) => sown_any A n c L W hn hb (ha.below hW))
  have LX : Hid (min 15 n = (sownK L 15).length) := by show _ = _; rw [sownK_len, hn]
  have hx1 : min 15 n ≤ 15 := by omega
  generalize sownK L 15 = X at *
  generalize min 15 n = N at *
  obtain ⟨kq, CC⟩ : ∃ kq, ∀ W, Calls Try.prog 25 #[.string key, .int .i64 20] W fun e w' => e = .returned (.string kq) ∧ W = w' := ⟨_, fun W => cut_any key 20 W (by omega) (by omega)⟩
  obtain ⟨E, tk, st, R, Y, C3, hE, hR, hst, hY, hYl, hsk, hF⟩ := plan_facts N X kq mode LX.out (by omega)
  obtain ⟨RN, hRN⟩ : ∃ y, y = R.length := ⟨_, rfl⟩
  obtain ⟨M, hM⟩ : ∃ y, y = Y.length := ⟨_, rfl⟩
  rw [← hRN] at C3 hR
  rw [← hM] at hYl hF
  have C3 := Lib.hid C3
  have CC := Lib.hid CC
  have HE := Lib.hid hE
  have HRN := Lib.hid hRN
  have HST := Lib.hid hst
  have HY := Lib.hid hY
  have HM := Lib.hid hM
  have HSK := Lib.hid hsk
  have HF := Lib.hid hF
  clear hn hb ha hE hRN hst hY hM hsk hF
  go_enter Try.func8, Try.ntmps8
  go_wp2_with fail
  refine (awake26_any _).mono ?_
  rintro e w1 ⟨rfl, hb1⟩
  have HB1 := Lib.hid hb1
  clear hb1
  go_wp2_with fail
  refine (C1.out _ HB1.out).mono ?_
  rintro e w2 ⟨v5, v6, rfl, ho5, ho6, hb2⟩
  obtain ⟨A5, c5, rfl, hc5, hm5⟩ := own_slice ho5
  obtain ⟨A6, c6, rfl, hc6, hm6⟩ := own_slice ho6
  have T5 := Lib.hid (At.own ho5)
  have T6 := Lib.hid (At.own ho6)
  have HB2 := Lib.hid (HB1.out.trans (hb2.mono HB1.out.size))
  clear ho5 ho6 hb2 C1
  go_wp2_with fail
  refine (CC.out _).mono ?_
  rintro e w2' ⟨rfl, rfl⟩
  go_wp2_with fail
  refine (C3.out A5 c5 _ T5.out).mono ?_
  rintro e w3 ⟨v1, v2, rfl, o1, o2, hb3⟩
  obtain ⟨EA, ec, rfl, _, _⟩ := own_slice o1
  obtain ⟨RA, rc, rfl, _, _⟩ := own_slice o2
  have hb23 := HB2.out.trans (hb3.mono HB2.out.size)
  obtain ⟨bp, hbp⟩ : ∃ b, b = w3.heap.size := ⟨_, rfl⟩
  obtain ⟨W4, hW4⟩ : ∃ W, W = w3.alloc (.cells #[.slice EA N ec, .int .i64 tk, .int .i64 st, .slice RA RN rc] 50) := ⟨_, rfl⟩
  have hb34 : Below w3.heap.size w3 W4 := by rw [hW4]; exact below_alloc w3 _
  have KP := Lib.hid (show Blk W4 bp 50 #[.slice EA N ec, .int .i64 tk, .int .i64 st, .slice RA RN rc] by rw [hW4, hbp]; exact Blk.new w3 _ _)
  have TE := Lib.hid ((At.own o1).below hb34)
  have TR := Lib.hid ((At.own o2).below hb34)
  have T64 := Lib.hid ((T6.out.below hb3).below hb34)
  have HB4 := Lib.hid (hb23.trans (hb34.mono hb23.size))
  have HW4 := Lib.hid hW4
  have HBP := Lib.hid hbp
  clear o1 o2 hb3 hb23 hW4 hbp hb34 C3 T5 T6 HB2 HB1
  go_upto_region 6 with fail
  rw [← HW4.out, ← HBP.out]
  have k0 := KP.out.cell 0 (v := .slice EA N ec) rfl
  have k1 := KP.out.cell 1 (v := .int .i64 tk) rfl
  have k2 := KP.out.cell 2 (v := .int .i64 st) rfl
  have k3 := KP.out.cell 3 (v := .slice RA RN rc) rfl
  go_wp2_with fail
  refine (after_any A6 N c6 X kq EA ec E tk st RA RN rc R W4 LX.out (by omega) HE.out HRN.out (by omega) HST.out T64.out TE.out TR.out).mono ?_
  rintro e w5 ⟨v8, rfl, ho8, hb5⟩
  rw [← HY.out, ← HM.out] at ho8
  obtain ⟨A8, c8, rfl, hc8, hm8⟩ := own_slice ho8
  have T8 := Lib.hid (At.own ho8)
  have HB5 := Lib.hid (HB4.out.trans (hb5.mono HB4.out.size))
  have T65 := Lib.hid (T64.out.below hb5)
  have KP5 := Lib.hid (KP.out.below hb5)
  clear ho8 hb5 k0 k1 k2 k3 HB4 T64 KP
  go_wp2_with fail
  refine (right_any A6 N c6 X w5 LX.out (by omega) hc6 hm6 T65.out).mono ?_
  rintro e w6 ⟨rfl, hb6⟩
  have T86 := Lib.hid (T8.out.below hb6)
  have T66 := Lib.hid (T65.out.below hb6)
  have HB6 := Lib.hid (HB5.out.trans (hb6.mono HB5.out.size))
  have KP6 := Lib.hid (KP5.out.below hb6)
  clear hb6 T8 T65 HB5 KP5
  by_cases hr : Right X
  · rw [decide_eq_true hr]
    obtain ⟨hr2, hcu, hoi, hio⟩ := HF.out hr
    have HR2 := Lib.hid hr2
    have HOI := Lib.hid hoi
    have HIO := Lib.hid hio
    clear hr hr2 hoi hio HF
    go_wp2_with fail
    refine (right_any A8 M c8 Y w6 HM.out (by omega) hc8 hm8 T86.out).mono ?_
    rintro e w7 ⟨rfl, hb7⟩
    rw [decide_eq_true HR2.out]
    have T87 := Lib.hid (T86.out.below hb7)
    have T67 := Lib.hid (T66.out.below hb7)
    have HB7 := Lib.hid (HB6.out.trans (hb7.mono HB6.out.size))
    have KP7 := Lib.hid (KP6.out.below hb7)
    have C8 := Lib.hid (rcurrent_any A8 M c8 Y w7 HM.out (by omega) T87.out)
    clear hb7 T86 T66 HB6 KP6
    rcases hcu with ⟨hk, hc⟩ | ⟨hk, a, hc, hal, hka⟩
    · rw [hc, show oI2 none = -2 from rfl] at C8
      have hkm : kq.toList.isEmpty = true := str_em hk
      have HK := Lib.hid hk
      clear hc hk
      go_wp2_with fail
      refine C8.out.mono ?_
      rintro e w8 ⟨rfl, hb8⟩
      have T88 := Lib.hid (T87.out.below hb8)
      have T68 := Lib.hid (T67.out.below hb8)
      have HB8 := Lib.hid (HB7.out.trans (hb8.mono HB7.out.size))
      have KP8 := Lib.hid (KP7.out.below hb8)
      clear hb8 T87 T67 HB7 KP7 C8
      go_upto_region 17 with fail
      go_loopw [72] (fun i wr => ∃ k : Nat, k ≤ M ∧ i = .int .i64 k ∧ Hid (Below w8.heap.size w8 wr)) (fun i _ => M - (intOf i).toNat)
      case atStart => exact ⟨0, Nat.zero_le _, rfl, Below.refl _ _⟩
      case round =>
        obtain ⟨k, hk, rfl, hbel⟩ := hrel
        by_cases hlt : k < M
        · obtain ⟨b1, o1, hAe, hb1, hc0, hc1⟩ := at_sk T88.out (k := k) (by have := HM.out; omega)
          subst hAe
          have hd0 := (hbel.out.cell (p := ⟨b1, o1 + k * 2, none⟩) hb1).trans hc0
          have hd1 := (hbel.out.cell (p := ⟨b1, o1 + k * 2 + 1, none⟩) hb1).trans hc1
          have hio : mode = 2 → st = 1 → ∀ a, cur X = some a → (sk Y k).2 = 5 → (sk Y k).1 ≠ (sk X a).1 := fun h1 h2 a ha h5 => HIO.out h1 h2 a ha k hlt h5
          generalize (sk Y k).1 = s at *
          generalize (sk Y k).2 = z at *
          have HIK := Lib.hid hio
          have hwr := hbel.out.size
          obtain ⟨gk, hgk⟩ : ∃ g, g = wr.heap.size := ⟨_, rfl⟩
          obtain ⟨W3, hW3⟩ : ∃ W, W = wr.alloc (.cells #[.string s, .int .i64 z] 63) := ⟨_, rfl⟩
          have K3 := Lib.hid (show Blk W3 gk 63 #[.string s, .int .i64 z] by rw [hW3, hgk]; exact Blk.new wr _ _)
          have hb83 : Below w8.heap.size w8 W3 := by rw [hW3]; exact hbel.out.alloc hwr _
          have HB83 := Lib.hid hb83
          have HB03 := Lib.hid (show Below w8.heap.size w8 W3 from hb83)
          have KP3 := Lib.hid (KP8.out.below hb83)
          have T63 := Lib.hid (T68.out.below hb83)
          have HW3 := Lib.hid hW3
          have HGK := Lib.hid hgk
          clear hio hc0 hc1 hW3 hgk hb83
          go_upto_region 19 with fail
          rw [← HW3.out, ← HGK.out]
          clear hd0 hd1
          have f0 := KP3.out.cell 2 (v := .int .i64 st) rfl
          have f1 := K3.out.cell 0 (v := .string s) rfl
          have f2 := K3.out.cell 1 (v := .int .i64 z) rfl
          by_cases m2 : mode = 2
          · have e2 : (mode == 2) = true := by simpa using m2
            have e1 : (mode == 1) = false := by rw [beq_eq_false_iff_ne]; omega
            by_cases s1 : st = 1
            · exact absurd HK.out (HSK.out (by omega))
            · have e3 : (st == 1) = false := by simpa using s1
              clear m2 s1
              go_upto_region 21 with fail
              have SH : Hid (∀ W, Below W3.heap.size W3 W → W.cell? ⟨bp, 2, none⟩ = some (.int .i64 st) ∧ W.cell? ⟨gk, 0, none⟩ = some (.string s) ∧ W.cell? ⟨gk, 1, none⟩ = some (.int .i64 z)) := fun W hW => ⟨(KP3.out.below hW).cell 2 rfl, (K3.out.below hW).cell 0 rfl, (K3.out.below hW).cell 1 rfl⟩
              clear f0 f1 f2
              have HB0 := Lib.hid (show Below W3.heap.size W3 W3.drew from Below_drew (Below.refl _ _))
              obtain ⟨X0, hX0⟩ : ∃ X, X = W3.drew := ⟨_, rfl⟩
              refine wp_region_held_drew (S := (fun w' => w'.cell? ⟨bp, 2, none⟩ = some (.int .i64 st) ∧ w'.cell? ⟨gk, 0, none⟩ = some (.string s) ∧ w'.cell? ⟨gk, 1, none⟩ = some (.int .i64 z))) (by kernel_rfl) (SH.out _ HB0.out) (fun hH0 => ?_)
              rw [← hX0] at HB0 hH0 ⊢
              clear hX0
              refine wpAnyH_take (i := 0) (oi := Oper.mk (some 101) (Op.move (Operand.tmp 2)) 3 "law.go:128" #[] none) (v := ?_) rfl (by kernel_rfl) (by kernel_rfl) (by kernel_rfl) (fun _ _ _ h => h) (Or.inl ⟨by rfl, ?_⟩) (by assumption) ?_
              rotate_left 1
              · (intro w hSw; (try dsimp only at hSw); go_simp; (try with_reducible rfl))
              try simp only [Act.put, List.setIfInBounds_toArray, List.set_cons_zero, List.set_cons_succ]
              refine wpAnyH_take (i := 1) (oi := Oper.mk (some 102) (Op.binOp BinOp.eql 3 (Operand.tmp 101) (Operand.const (Value.int IntKind.i64 2)) 3) 4 "law.go:128" #[Edge.mk 0 Ground.data] none) (v := ?_) rfl (by kernel_rfl) (by kernel_rfl) (by kernel_rfl) (fun _ _ _ h => h) (Or.inl ⟨by rfl, ?_⟩) (by assumption) ?_
              rotate_left 1
              · (intro w hSw; (try dsimp only at hSw); go_simp; (try with_reducible rfl))
              try simp only [Act.put, List.setIfInBounds_toArray, List.set_cons_zero, List.set_cons_succ]
              refine wpAnyH_take (i := 2) (oi := Oper.mk (some 103) (Op.move (Operand.tmp 102)) 4 "law.go:128" #[Edge.mk 1 Ground.data] none) (v := ?_) rfl (by kernel_rfl) (by kernel_rfl) (by kernel_rfl) (fun _ _ _ h => h) (Or.inl ⟨by rfl, ?_⟩) (by assumption) ?_
              rotate_left 1
              · (intro w hSw; (try dsimp only at hSw); go_simp; (try with_reducible rfl))
              try simp only [Act.put, List.setIfInBounds_toArray, List.set_cons_zero, List.set_cons_succ]
              refine wpAnyH_take (i := 3) (oi := Oper.mk (some 104) (Op.fieldAddr 50 (Operand.tmp 9) 2) 0 "law.go:128" #[Edge.mk 2 Ground.guard] (some (2, true))) (v := ?_) rfl (by kernel_rfl) (by kernel_rfl) (by kernel_rfl) (fun _ _ _ h => h) (Or.inl ⟨by rfl, ?_⟩) (by assumption) ?_
              rotate_left 1
              · (intro w hSw; (try dsimp only at hSw); go_simp; (try with_reducible rfl))
              try simp only [Act.put, List.setIfInBounds_toArray, List.set_cons_zero, List.set_cons_succ]
              refine wpAnyH_take (i := 4) (oi := Oper.mk (some 105) (Op.load 3 (Operand.tmp 104)) 3 "law.go:128" #[Edge.mk 3 Ground.data, Edge.mk 2 Ground.guard] (some (2, true))) (v := ?_) rfl (by kernel_rfl) (by kernel_rfl) (by kernel_rfl) (fun _ _ _ h => h) (Or.inl ⟨by rfl, ?_⟩) (by assumption) ?_
              rotate_left 1
              · (intro w hSw; (try dsimp only at hSw); go_simp; (try with_reducible rfl))
              try simp only [Act.put, List.setIfInBounds_toArray, List.set_cons_zero, List.set_cons_succ]
              refine wpAnyH_take (i := 5) (oi := Oper.mk (some 106) (Op.binOp BinOp.eql 3 (Operand.tmp 105) (Operand.const (Value.int IntKind.i64 1)) 3) 4 "law.go:128" #[Edge.mk 4 Ground.data, Edge.mk 2 Ground.guard] (some (2, true))) (v := ?_) rfl (by kernel_rfl) (by kernel_rfl) (by kernel_rfl) (fun _ _ _ h => h) (Or.inl ⟨by rfl, ?_⟩) (by assumption) ?_
              rotate_left 1
              · (intro w hSw; (try dsimp only at hSw); go_simp; (try with_reducible rfl))
              try simp only [Act.put, List.setIfInBounds_toArray, List.set_cons_zero, List.set_cons_succ]
              refine wpAnyH_take (i := 6) (oi := Oper.mk (some 107) (Op.pick (Operand.tmp 103) (Operand.tmp 106) (Operand.const (Value.bool false))) 4 "law.go:128" #[Edge.mk 2 Ground.data, Edge.mk 5 Ground.data] none) (v := ?_) rfl (by kernel_rfl) (by kernel_rfl) (by kernel_rfl) (fun _ _ _ h => h) (Or.inl ⟨by rfl, ?_⟩) (by assumption) ?_
              rotate_left 1
              · (intro w hSw; (try dsimp only at hSw); go_simp; (try with_reducible rfl))
              try simp only [Act.put, List.setIfInBounds_toArray, List.set_cons_zero, List.set_cons_succ]
              refine wpAnyH_take (i := 7) (oi := Oper.mk (some 108) (Op.move (Operand.tmp 107)) 4 "law.go:128" #[Edge.mk 6 Ground.data, Edge.mk 2 Ground.chain] none) (v := ?_) rfl (by kernel_rfl) (by kernel_rfl) (by kernel_rfl) (fun _ _ _ h => h) (Or.inl ⟨by rfl, ?_⟩) (by assumption) ?_
              rotate_left 1
              · (intro w hSw; (try dsimp only at hSw); go_simp; (try with_reducible rfl))
              try simp only [Act.put, List.setIfInBounds_toArray, List.set_cons_zero, List.set_cons_succ]
              refine wpAnyH_take (i := 8) (oi := Oper.mk (some 109) (Op.fieldAddr 63 (Operand.tmp 14) 1) 0 "law.go:128" #[Edge.mk 7 Ground.guard] (some (7, true))) (v := undef) rfl (by kernel_rfl) (by kernel_rfl) (by kernel_rfl) (fun _ _ _ h => h) (Or.inr ⟨by rfl, rfl⟩) (by assumption) ?_
              try simp only [Act.put, List.setIfInBounds_toArray, List.set_cons_zero, List.set_cons_succ]
              refine wpAnyH_take (i := 9) (oi := Oper.mk (some 110) (Op.load 3 (Operand.tmp 109)) 3 "law.go:128" #[Edge.mk 8 Ground.data, Edge.mk 7 Ground.guard] (some (7, true))) (v := undef) rfl (by kernel_rfl) (by kernel_rfl) (by kernel_rfl) (fun _ _ _ h => h) (Or.inr ⟨by rfl, rfl⟩) (by assumption) ?_
              try simp only [Act.put, List.setIfInBounds_toArray, List.set_cons_zero, List.set_cons_succ]
              refine wpAnyH_take (i := 10) (oi := Oper.mk (some 111) (Op.binOp BinOp.eql 3 (Operand.tmp 110) (Operand.const (Value.int IntKind.i64 5)) 3) 4 "law.go:128" #[Edge.mk 9 Ground.data, Edge.mk 7 Ground.guard] (some (7, true))) (v := undef) rfl (by kernel_rfl) (by kernel_rfl) (by kernel_rfl) (fun _ _ _ h => h) (Or.inr ⟨by rfl, rfl⟩) (by assumption) ?_
              try simp only [Act.put, List.setIfInBounds_toArray, List.set_cons_zero, List.set_cons_succ]
              refine wpAnyH_take (i := 11) (oi := Oper.mk (some 112) (Op.pick (Operand.tmp 108) (Operand.tmp 111) (Operand.const (Value.bool false))) 4 "law.go:128" #[Edge.mk 7 Ground.data, Edge.mk 10 Ground.data] none) (v := ?_) rfl (by kernel_rfl) (by kernel_rfl) (by kernel_rfl) (fun _ _ _ h => h) (Or.inl ⟨by rfl, ?_⟩) (by assumption) ?_
              rotate_left 1
              · (intro w hSw; (try dsimp only at hSw); go_simp; (try with_reducible rfl))
              try simp only [Act.put, List.setIfInBounds_toArray, List.set_cons_zero, List.set_cons_succ]
              refine wpAnyH_take (i := 12) (oi := Oper.mk (some 113) (Op.move (Operand.tmp 112)) 4 "law.go:128" #[Edge.mk 11 Ground.data, Edge.mk 7 Ground.chain] none) (v := ?_) rfl (by kernel_rfl) (by kernel_rfl) (by kernel_rfl) (fun _ _ _ h => h) (Or.inl ⟨by rfl, ?_⟩) (by assumption) ?_
              rotate_left 1
              · (intro w hSw; (try dsimp only at hSw); go_simp; (try with_reducible rfl))
              try simp only [Act.put, List.setIfInBounds_toArray, List.set_cons_zero, List.set_cons_succ]
              refine wpAnyH_take (i := 13) (oi := Oper.mk (some 114) (Op.move (Operand.tmp 13)) 3 "law.go:128" #[Edge.mk 12 Ground.guard] (some (12, true))) (v := undef) rfl (by kernel_rfl) (by kernel_rfl) (by kernel_rfl) (fun _ _ _ h => h) (Or.inr ⟨by rfl, rfl⟩) (by assumption) ?_
              try simp only [Act.put, List.setIfInBounds_toArray, List.set_cons_zero, List.set_cons_succ]
              refine wpAnyH_take (i := 14) (oi := Oper.mk (some 115) (Op.move (Operand.tmp 8)) 44 "law.go:128" #[Edge.mk 12 Ground.guard] (some (12, true))) (v := undef) rfl (by kernel_rfl) (by kernel_rfl) (by kernel_rfl) (fun _ _ _ h => h) (Or.inr ⟨by rfl, rfl⟩) (by assumption) ?_
              try simp only [Act.put, List.setIfInBounds_toArray, List.set_cons_zero, List.set_cons_succ]
              refine wpAnyH_take (i := 15) (oi := Oper.mk (some 116) (Op.call (Call.mk (Callee.builtin Builtin.len) #[Operand.tmp 115] #[44])) 3 "law.go:128" #[Edge.mk 14 Ground.data, Edge.mk 12 Ground.guard] (some (12, true))) (v := undef) rfl (by kernel_rfl) (by kernel_rfl) (by kernel_rfl) (fun _ _ _ h => h) (Or.inr ⟨by rfl, rfl⟩) (by assumption) ?_
              try simp only [Act.put, List.setIfInBounds_toArray, List.set_cons_zero, List.set_cons_succ]
              refine wpAnyH_take (i := 16) (oi := Oper.mk (some 117) (Op.binOp BinOp.lss 3 (Operand.tmp 114) (Operand.tmp 116) 3) 4 "law.go:128" #[Edge.mk 13 Ground.data, Edge.mk 15 Ground.data, Edge.mk 12 Ground.guard] (some (12, true))) (v := undef) rfl (by kernel_rfl) (by kernel_rfl) (by kernel_rfl) (fun _ _ _ h => h) (Or.inr ⟨by rfl, rfl⟩) (by assumption) ?_
              try simp only [Act.put, List.setIfInBounds_toArray, List.set_cons_zero, List.set_cons_succ]
              refine wpAnyH_take (i := 17) (oi := Oper.mk (some 118) (Op.pick (Operand.tmp 113) (Operand.tmp 117) (Operand.const (Value.bool false))) 4 "law.go:128" #[Edge.mk 12 Ground.data, Edge.mk 16 Ground.data] none) (v := ?_) rfl (by kernel_rfl) (by kernel_rfl) (by kernel_rfl) (fun _ _ _ h => h) (Or.inl ⟨by rfl, ?_⟩) (by assumption) ?_
              rotate_left 1
              · (intro w hSw; (try dsimp only at hSw); go_simp; (try with_reducible rfl))
              try simp only [Act.put, List.setIfInBounds_toArray, List.set_cons_zero, List.set_cons_succ]
              refine wpAnyH_take (i := 18) (oi := Oper.mk (some 119) (Op.move (Operand.tmp 118)) 4 "law.go:128" #[Edge.mk 17 Ground.data, Edge.mk 12 Ground.chain] none) (v := ?_) rfl (by kernel_rfl) (by kernel_rfl) (by kernel_rfl) (fun _ _ _ h => h) (Or.inl ⟨by rfl, ?_⟩) (by assumption) ?_
              rotate_left 1
              · (intro w hSw; (try dsimp only at hSw); go_simp; (try with_reducible rfl))
              try simp only [Act.put, List.setIfInBounds_toArray, List.set_cons_zero, List.set_cons_succ]
              refine wpAnyH_take (i := 19) (oi := Oper.mk (some 120) (Op.move (Operand.tmp 8)) 44 "law.go:128" #[Edge.mk 18 Ground.guard] (some (18, true))) (v := undef) rfl (by kernel_rfl) (by kernel_rfl) (by kernel_rfl) (fun _ _ _ h => h) (Or.inr ⟨by rfl, rfl⟩) (by assumption) ?_
              try simp only [Act.put, List.setIfInBounds_toArray, List.set_cons_zero, List.set_cons_succ]
              refine wpAnyH_take (i := 20) (oi := Oper.mk (some 121) (Op.call (Call.mk (Callee.value (Operand.func 32)) #[Operand.tmp 120] #[44])) 3 "law.go:128" #[Edge.mk 19 Ground.data, Edge.mk 18 Ground.chain, Edge.mk 18 Ground.guard] (some (18, true))) (v := undef) rfl (by kernel_rfl) (by kernel_rfl) (by kernel_rfl) (fun _ _ _ h => h) (Or.inr ⟨by rfl, rfl⟩) (by assumption) ?_
              try simp only [Act.put, List.setIfInBounds_toArray, List.set_cons_zero, List.set_cons_succ]
              refine wpAnyH_take (i := 21) (oi := Oper.mk (some 122) (Op.binOp BinOp.geq 3 (Operand.tmp 121) (Operand.const (Value.int IntKind.i64 0)) 3) 4 "law.go:128" #[Edge.mk 20 Ground.data, Edge.mk 18 Ground.guard] (some (18, true))) (v := undef) rfl (by kernel_rfl) (by kernel_rfl) (by kernel_rfl) (fun _ _ _ h => h) (Or.inr ⟨by rfl, rfl⟩) (by assumption) ?_
              try simp only [Act.put, List.setIfInBounds_toArray, List.set_cons_zero, List.set_cons_succ]
              refine wpAnyH_take (i := 22) (oi := Oper.mk (some 123) (Op.pick (Operand.tmp 119) (Operand.tmp 122) (Operand.const (Value.bool false))) 4 "law.go:128" #[Edge.mk 18 Ground.data, Edge.mk 21 Ground.data] none) (v := ?_) rfl (by kernel_rfl) (by kernel_rfl) (by kernel_rfl) (fun _ _ _ h => h) (Or.inl ⟨by rfl, ?_⟩) (by assumption) ?_
              rotate_left 1
              · (intro w hSw; (try dsimp only at hSw); go_simp; (try with_reducible rfl))
              try simp only [Act.put, List.setIfInBounds_toArray, List.set_cons_zero, List.set_cons_succ]
              refine wpAnyH_take (i := 23) (oi := Oper.mk (some 124) (Op.move (Operand.tmp 123)) 4 "law.go:128" #[Edge.mk 22 Ground.data, Edge.mk 20 Ground.chain] none) (v := ?_) rfl (by kernel_rfl) (by kernel_rfl) (by kernel_rfl) (fun _ _ _ h => h) (Or.inl ⟨by rfl, ?_⟩) (by assumption) ?_
              rotate_left 1
              · (intro w hSw; (try dsimp only at hSw); go_simp; (try with_reducible rfl))
              try simp only [Act.put, List.setIfInBounds_toArray, List.set_cons_zero, List.set_cons_succ]
              refine wpAnyH_take (i := 24) (oi := Oper.mk (some 125) (Op.fieldAddr 63 (Operand.tmp 14) 0) 0 "law.go:128" #[Edge.mk 23 Ground.guard] (some (23, true))) (v := undef) rfl (by kernel_rfl) (by kernel_rfl) (by kernel_rfl) (fun _ _ _ h => h) (Or.inr ⟨by rfl, rfl⟩) (by assumption) ?_
              try simp only [Act.put, List.setIfInBounds_toArray, List.set_cons_zero, List.set_cons_succ]
              refine wpAnyH_take (i := 25) (oi := Oper.mk (some 126) (Op.load 9 (Operand.tmp 125)) 9 "law.go:128" #[Edge.mk 24 Ground.data, Edge.mk 23 Ground.guard] (some (23, true))) (v := undef) rfl (by kernel_rfl) (by kernel_rfl) (by kernel_rfl) (fun _ _ _ h => h) (Or.inr ⟨by rfl, rfl⟩) (by assumption) ?_
              try simp only [Act.put, List.setIfInBounds_toArray, List.set_cons_zero, List.set_cons_succ]
              refine wpAnyH_take (i := 26) (oi := Oper.mk (some 127) (Op.move (Operand.tmp 8)) 44 "law.go:128" #[Edge.mk 23 Ground.guard] (some (23, true))) (v := undef) rfl (by kernel_rfl) (by kernel_rfl) (by kernel_rfl) (fun _ _ _ h => h) (Or.inr ⟨by rfl, rfl⟩) (by assumption) ?_
              try simp only [Act.put, List.setIfInBounds_toArray, List.set_cons_zero, List.set_cons_succ]
              refine wpAnyH_take (i := 27) (oi := Oper.mk (some 128) (Op.move (Operand.tmp 8)) 44 "law.go:128" #[Edge.mk 23 Ground.guard] (some (23, true))) (v := undef) rfl (by kernel_rfl) (by kernel_rfl) (by kernel_rfl) (fun _ _ _ h => h) (Or.inr ⟨by rfl, rfl⟩) (by assumption) ?_
              try simp only [Act.put, List.setIfInBounds_toArray, List.set_cons_zero, List.set_cons_succ]
              refine wpAnyH_take (i := 28) (oi := Oper.mk (some 129) (Op.call (Call.mk (Callee.value (Operand.func 32)) #[Operand.tmp 128] #[44])) 3 "law.go:128" #[Edge.mk 27 Ground.data, Edge.mk 23 Ground.chain, Edge.mk 23 Ground.guard] (some (23, true))) (v := undef) rfl (by kernel_rfl) (by kernel_rfl) (by kernel_rfl) (fun _ _ _ h => h) (Or.inr ⟨by rfl, rfl⟩) (by assumption) ?_
              try simp only [Act.put, List.setIfInBounds_toArray, List.set_cons_zero, List.set_cons_succ]
              refine wpAnyH_take (i := 29) (oi := Oper.mk (some 130) (Op.indexAddr 44 (Operand.tmp 127) (Operand.tmp 129)) 0 "law.go:128" #[Edge.mk 26 Ground.data, Edge.mk 28 Ground.data, Edge.mk 23 Ground.guard] (some (23, true))) (v := undef) rfl (by kernel_rfl) (by kernel_rfl) (by kernel_rfl) (fun _ _ _ h => h) (Or.inr ⟨by rfl, rfl⟩) (by assumption) ?_
              try simp only [Act.put, List.setIfInBounds_toArray, List.set_cons_zero, List.set_cons_succ]
              refine wpAnyH_take (i := 30) (oi := Oper.mk (some 131) (Op.fieldAddr 63 (Operand.tmp 130) 0) 0 "law.go:128" #[Edge.mk 29 Ground.data, Edge.mk 23 Ground.guard] (some (23, true))) (v := undef) rfl (by kernel_rfl) (by kernel_rfl) (by kernel_rfl) (fun _ _ _ h => h) (Or.inr ⟨by rfl, rfl⟩) (by assumption) ?_
              try simp only [Act.put, List.setIfInBounds_toArray, List.set_cons_zero, List.set_cons_succ]
              refine wpAnyH_take (i := 31) (oi := Oper.mk (some 132) (Op.load 9 (Operand.tmp 131)) 9 "law.go:128" #[Edge.mk 30 Ground.data, Edge.mk 23 Ground.guard] (some (23, true))) (v := undef) rfl (by kernel_rfl) (by kernel_rfl) (by kernel_rfl) (fun _ _ _ h => h) (Or.inr ⟨by rfl, rfl⟩) (by assumption) ?_
              try simp only [Act.put, List.setIfInBounds_toArray, List.set_cons_zero, List.set_cons_succ]
              refine wpAnyH_take (i := 32) (oi := Oper.mk (some 133) (Op.binOp BinOp.eql 9 (Operand.tmp 126) (Operand.tmp 132) 9) 4 "law.go:128" #[Edge.mk 25 Ground.data, Edge.mk 31 Ground.data, Edge.mk 23 Ground.guard] (some (23, true))) (v := undef) rfl (by kernel_rfl) (by kernel_rfl) (by kernel_rfl) (fun _ _ _ h => h) (Or.inr ⟨by rfl, rfl⟩) (by assumption) ?_
              try simp only [Act.put, List.setIfInBounds_toArray, List.set_cons_zero, List.set_cons_succ]
              refine wpAnyH_take (i := 33) (oi := Oper.mk (some 134) (Op.pick (Operand.tmp 124) (Operand.tmp 133) (Operand.const (Value.bool false))) 4 "law.go:128" #[Edge.mk 23 Ground.data, Edge.mk 32 Ground.data] none) (v := ?_) rfl (by kernel_rfl) (by kernel_rfl) (by kernel_rfl) (fun _ _ _ h => h) (Or.inl ⟨by rfl, ?_⟩) (by assumption) ?_
              rotate_left 1
              · (intro w hSw; (try dsimp only at hSw); go_simp; (try with_reducible rfl))
              try simp only [Act.put, List.setIfInBounds_toArray, List.set_cons_zero, List.set_cons_succ]
              refine wpAnyH_done (by kernel_rfl) ?_ _
              go_wp2_with fail
              go_roundw
              case rel => exact ⟨k + 1, by omega, by go_num, Lib.hid (HB03.out.trans (HB0.out.mono HB03.out.size))⟩
              case measure => simp [intOf]; omega
          · have e2 : (mode == 2) = false := by simpa using m2
            by_cases m1 : mode = 1
            · have e1 : (mode == 1) = true := by simpa using m1
              clear m1 m2
              go_upto_region 21 with fail
              have SH : Hid (∀ W, Below W3.heap.size W3 W → W.cell? ⟨bp, 2, none⟩ = some (.int .i64 st) ∧ W.cell? ⟨gk, 0, none⟩ = some (.string s) ∧ W.cell? ⟨gk, 1, none⟩ = some (.int .i64 z)) := fun W hW => ⟨(KP3.out.below hW).cell 2 rfl, (K3.out.below hW).cell 0 rfl, (K3.out.below hW).cell 1 rfl⟩
              clear f0 f1 f2
              have HB0 := Lib.hid (show Below W3.heap.size W3 W3.drew from Below_drew (Below.refl _ _))
              obtain ⟨X0, hX0⟩ : ∃ X, X = W3.drew := ⟨_, rfl⟩
              refine wp_region_held_drew (S := (fun w' => w'.cell? ⟨bp, 2, none⟩ = some (.int .i64 st) ∧ w'.cell? ⟨gk, 0, none⟩ = some (.string s) ∧ w'.cell? ⟨gk, 1, none⟩ = some (.int .i64 z))) (by kernel_rfl) (SH.out _ HB0.out) (fun hH0 => ?_)
              rw [← hX0] at HB0 hH0 ⊢
              clear hX0
              refine wpAnyH_take (i := 0) (oi := Oper.mk (some 101) (Op.move (Operand.tmp 2)) 3 "law.go:128" #[] none) (v := ?_) rfl (by kernel_rfl) (by kernel_rfl) (by kernel_rfl) (fun _ _ _ h => h) (Or.inl ⟨by rfl, ?_⟩) (by assumption) ?_
              rotate_left 1
              · (intro w hSw; (try dsimp only at hSw); go_simp; (try with_reducible rfl))
              try simp only [Act.put, List.setIfInBounds_toArray, List.set_cons_zero, List.set_cons_succ]
              refine wpAnyH_take (i := 1) (oi := Oper.mk (some 102) (Op.binOp BinOp.eql 3 (Operand.tmp 101) (Operand.const (Value.int IntKind.i64 2)) 3) 4 "law.go:128" #[Edge.mk 0 Ground.data] none) (v := ?_) rfl (by kernel_rfl) (by kernel_rfl) (by kernel_rfl) (fun _ _ _ h => h) (Or.inl ⟨by rfl, ?_⟩) (by assumption) ?_
              rotate_left 1
              · (intro w hSw; (try dsimp only at hSw); go_simp; (try with_reducible rfl))
              try simp only [Act.put, List.setIfInBounds_toArray, List.set_cons_zero, List.set_cons_succ]
              refine wpAnyH_take (i := 2) (oi := Oper.mk (some 103) (Op.move (Operand.tmp 102)) 4 "law.go:128" #[Edge.mk 1 Ground.data] none) (v := ?_) rfl (by kernel_rfl) (by kernel_rfl) (by kernel_rfl) (fun _ _ _ h => h) (Or.inl ⟨by rfl, ?_⟩) (by assumption) ?_
              rotate_left 1
              · (intro w hSw; (try dsimp only at hSw); go_simp; (try with_reducible rfl))
              try simp only [Act.put, List.setIfInBounds_toArray, List.set_cons_zero, List.set_cons_succ]
              refine wpAnyH_take (i := 3) (oi := Oper.mk (some 104) (Op.fieldAddr 50 (Operand.tmp 9) 2) 0 "law.go:128" #[Edge.mk 2 Ground.guard] (some (2, true))) (v := undef) rfl (by kernel_rfl) (by kernel_rfl) (by kernel_rfl) (fun _ _ _ h => h) (Or.inr ⟨by rfl, rfl⟩) (by assumption) ?_
              try simp only [Act.put, List.setIfInBounds_toArray, List.set_cons_zero, List.set_cons_succ]
              refine wpAnyH_take (i := 4) (oi := Oper.mk (some 105) (Op.load 3 (Operand.tmp 104)) 3 "law.go:128" #[Edge.mk 3 Ground.data, Edge.mk 2 Ground.guard] (some (2, true))) (v := undef) rfl (by kernel_rfl) (by kernel_rfl) (by kernel_rfl) (fun _ _ _ h => h) (Or.inr ⟨by rfl, rfl⟩) (by assumption) ?_
              try simp only [Act.put, List.setIfInBounds_toArray, List.set_cons_zero, List.set_cons_succ]
              refine wpAnyH_take (i := 5) (oi := Oper.mk (some 106) (Op.binOp BinOp.eql 3 (Operand.tmp 105) (Operand.const (Value.int IntKind.i64 1)) 3) 4 "law.go:128" #[Edge.mk 4 Ground.data, Edge.mk 2 Ground.guard] (some (2, true))) (v := undef) rfl (by kernel_rfl) (by kernel_rfl) (by kernel_rfl) (fun _ _ _ h => h) (Or.inr ⟨by rfl, rfl⟩) (by assumption) ?_
              try simp only [Act.put, List.setIfInBounds_toArray, List.set_cons_zero, List.set_cons_succ]
              refine wpAnyH_take (i := 6) (oi := Oper.mk (some 107) (Op.pick (Operand.tmp 103) (Operand.tmp 106) (Operand.const (Value.bool false))) 4 "law.go:128" #[Edge.mk 2 Ground.data, Edge.mk 5 Ground.data] none) (v := ?_) rfl (by kernel_rfl) (by kernel_rfl) (by kernel_rfl) (fun _ _ _ h => h) (Or.inl ⟨by rfl, ?_⟩) (by assumption) ?_
              rotate_left 1
              · (intro w hSw; (try dsimp only at hSw); go_simp; (try with_reducible rfl))
              try simp only [Act.put, List.setIfInBounds_toArray, List.set_cons_zero, List.set_cons_succ]
              refine wpAnyH_take (i := 7) (oi := Oper.mk (some 108) (Op.move (Operand.tmp 107)) 4 "law.go:128" #[Edge.mk 6 Ground.data, Edge.mk 2 Ground.chain] none) (v := ?_) rfl (by kernel_rfl) (by kernel_rfl) (by kernel_rfl) (fun _ _ _ h => h) (Or.inl ⟨by rfl, ?_⟩) (by assumption) ?_
              rotate_left 1
              · (intro w hSw; (try dsimp only at hSw); go_simp; (try with_reducible rfl))
              try simp only [Act.put, List.setIfInBounds_toArray, List.set_cons_zero, List.set_cons_succ]
              refine wpAnyH_take (i := 8) (oi := Oper.mk (some 109) (Op.fieldAddr 63 (Operand.tmp 14) 1) 0 "law.go:128" #[Edge.mk 7 Ground.guard] (some (7, true))) (v := undef) rfl (by kernel_rfl) (by kernel_rfl) (by kernel_rfl) (fun _ _ _ h => h) (Or.inr ⟨by rfl, rfl⟩) (by assumption) ?_
              try simp only [Act.put, List.setIfInBounds_toArray, List.set_cons_zero, List.set_cons_succ]
              refine wpAnyH_take (i := 9) (oi := Oper.mk (some 110) (Op.load 3 (Operand.tmp 109)) 3 "law.go:128" #[Edge.mk 8 Ground.data, Edge.mk 7 Ground.guard] (some (7, true))) (v := undef) rfl (by kernel_rfl) (by kernel_rfl) (by kernel_rfl) (fun _ _ _ h => h) (Or.inr ⟨by rfl, rfl⟩) (by assumption) ?_
              try simp only [Act.put, List.setIfInBounds_toArray, List.set_cons_zero, List.set_cons_succ]
              refine wpAnyH_take (i := 10) (oi := Oper.mk (some 111) (Op.binOp BinOp.eql 3 (Operand.tmp 110) (Operand.const (Value.int IntKind.i64 5)) 3) 4 "law.go:128" #[Edge.mk 9 Ground.data, Edge.mk 7 Ground.guard] (some (7, true))) (v := undef) rfl (by kernel_rfl) (by kernel_rfl) (by kernel_rfl) (fun _ _ _ h => h) (Or.inr ⟨by rfl, rfl⟩) (by assumption) ?_
              try simp only [Act.put, List.setIfInBounds_toArray, List.set_cons_zero, List.set_cons_succ]
              refine wpAnyH_take (i := 11) (oi := Oper.mk (some 112) (Op.pick (Operand.tmp 108) (Operand.tmp 111) (Operand.const (Value.bool false))) 4 "law.go:128" #[Edge.mk 7 Ground.data, Edge.mk 10 Ground.data] none) (v := ?_) rfl (by kernel_rfl) (by kernel_rfl) (by kernel_rfl) (fun _ _ _ h => h) (Or.inl ⟨by rfl, ?_⟩) (by assumption) ?_
              rotate_left 1
              · (intro w hSw; (try dsimp only at hSw); go_simp; (try with_reducible rfl))
              try simp only [Act.put, List.setIfInBounds_toArray, List.set_cons_zero, List.set_cons_succ]
              refine wpAnyH_take (i := 12) (oi := Oper.mk (some 113) (Op.move (Operand.tmp 112)) 4 "law.go:128" #[Edge.mk 11 Ground.data, Edge.mk 7 Ground.chain] none) (v := ?_) rfl (by kernel_rfl) (by kernel_rfl) (by kernel_rfl) (fun _ _ _ h => h) (Or.inl ⟨by rfl, ?_⟩) (by assumption) ?_
              rotate_left 1
              · (intro w hSw; (try dsimp only at hSw); go_simp; (try with_reducible rfl))
              try simp only [Act.put, List.setIfInBounds_toArray, List.set_cons_zero, List.set_cons_succ]
              refine wpAnyH_take (i := 13) (oi := Oper.mk (some 114) (Op.move (Operand.tmp 13)) 3 "law.go:128" #[Edge.mk 12 Ground.guard] (some (12, true))) (v := undef) rfl (by kernel_rfl) (by kernel_rfl) (by kernel_rfl) (fun _ _ _ h => h) (Or.inr ⟨by rfl, rfl⟩) (by assumption) ?_
              try simp only [Act.put, List.setIfInBounds_toArray, List.set_cons_zero, List.set_cons_succ]
              refine wpAnyH_take (i := 14) (oi := Oper.mk (some 115) (Op.move (Operand.tmp 8)) 44 "law.go:128" #[Edge.mk 12 Ground.guard] (some (12, true))) (v := undef) rfl (by kernel_rfl) (by kernel_rfl) (by kernel_rfl) (fun _ _ _ h => h) (Or.inr ⟨by rfl, rfl⟩) (by assumption) ?_
              try simp only [Act.put, List.setIfInBounds_toArray, List.set_cons_zero, List.set_cons_succ]
              refine wpAnyH_take (i := 15) (oi := Oper.mk (some 116) (Op.call (Call.mk (Callee.builtin Builtin.len) #[Operand.tmp 115] #[44])) 3 "law.go:128" #[Edge.mk 14 Ground.data, Edge.mk 12 Ground.guard] (some (12, true))) (v := undef) rfl (by kernel_rfl) (by kernel_rfl) (by kernel_rfl) (fun _ _ _ h => h) (Or.inr ⟨by rfl, rfl⟩) (by assumption) ?_
              try simp only [Act.put, List.setIfInBounds_toArray, List.set_cons_zero, List.set_cons_succ]
              refine wpAnyH_take (i := 16) (oi := Oper.mk (some 117) (Op.binOp BinOp.lss 3 (Operand.tmp 114) (Operand.tmp 116) 3) 4 "law.go:128" #[Edge.mk 13 Ground.data, Edge.mk 15 Ground.data, Edge.mk 12 Ground.guard] (some (12, true))) (v := undef) rfl (by kernel_rfl) (by kernel_rfl) (by kernel_rfl) (fun _ _ _ h => h) (Or.inr ⟨by rfl, rfl⟩) (by assumption) ?_
              try simp only [Act.put, List.setIfInBounds_toArray, List.set_cons_zero, List.set_cons_succ]
              refine wpAnyH_take (i := 17) (oi := Oper.mk (some 118) (Op.pick (Operand.tmp 113) (Operand.tmp 117) (Operand.const (Value.bool false))) 4 "law.go:128" #[Edge.mk 12 Ground.data, Edge.mk 16 Ground.data] none) (v := ?_) rfl (by kernel_rfl) (by kernel_rfl) (by kernel_rfl) (fun _ _ _ h => h) (Or.inl ⟨by rfl, ?_⟩) (by assumption) ?_
              rotate_left 1
              · (intro w hSw; (try dsimp only at hSw); go_simp; (try with_reducible rfl))
              try simp only [Act.put, List.setIfInBounds_toArray, List.set_cons_zero, List.set_cons_succ]
              refine wpAnyH_take (i := 18) (oi := Oper.mk (some 119) (Op.move (Operand.tmp 118)) 4 "law.go:128" #[Edge.mk 17 Ground.data, Edge.mk 12 Ground.chain] none) (v := ?_) rfl (by kernel_rfl) (by kernel_rfl) (by kernel_rfl) (fun _ _ _ h => h) (Or.inl ⟨by rfl, ?_⟩) (by assumption) ?_
              rotate_left 1
              · (intro w hSw; (try dsimp only at hSw); go_simp; (try with_reducible rfl))
              try simp only [Act.put, List.setIfInBounds_toArray, List.set_cons_zero, List.set_cons_succ]
              refine wpAnyH_take (i := 19) (oi := Oper.mk (some 120) (Op.move (Operand.tmp 8)) 44 "law.go:128" #[Edge.mk 18 Ground.guard] (some (18, true))) (v := undef) rfl (by kernel_rfl) (by kernel_rfl) (by kernel_rfl) (fun _ _ _ h => h) (Or.inr ⟨by rfl, rfl⟩) (by assumption) ?_
              try simp only [Act.put, List.setIfInBounds_toArray, List.set_cons_zero, List.set_cons_succ]
              refine wpAnyH_take (i := 20) (oi := Oper.mk (some 121) (Op.call (Call.mk (Callee.value (Operand.func 32)) #[Operand.tmp 120] #[44])) 3 "law.go:128" #[Edge.mk 19 Ground.data, Edge.mk 18 Ground.chain, Edge.mk 18 Ground.guard] (some (18, true))) (v := undef) rfl (by kernel_rfl) (by kernel_rfl) (by kernel_rfl) (fun _ _ _ h => h) (Or.inr ⟨by rfl, rfl⟩) (by assumption) ?_
              try simp only [Act.put, List.setIfInBounds_toArray, List.set_cons_zero, List.set_cons_succ]
              refine wpAnyH_take (i := 21) (oi := Oper.mk (some 122) (Op.binOp BinOp.geq 3 (Operand.tmp 121) (Operand.const (Value.int IntKind.i64 0)) 3) 4 "law.go:128" #[Edge.mk 20 Ground.data, Edge.mk 18 Ground.guard] (some (18, true))) (v := undef) rfl (by kernel_rfl) (by kernel_rfl) (by kernel_rfl) (fun _ _ _ h => h) (Or.inr ⟨by rfl, rfl⟩) (by assumption) ?_
              try simp only [Act.put, List.setIfInBounds_toArray, List.set_cons_zero, List.set_cons_succ]
              refine wpAnyH_take (i := 22) (oi := Oper.mk (some 123) (Op.pick (Operand.tmp 119) (Operand.tmp 122) (Operand.const (Value.bool false))) 4 "law.go:128" #[Edge.mk 18 Ground.data, Edge.mk 21 Ground.data] none) (v := ?_) rfl (by kernel_rfl) (by kernel_rfl) (by kernel_rfl) (fun _ _ _ h => h) (Or.inl ⟨by rfl, ?_⟩) (by assumption) ?_
              rotate_left 1
              · (intro w hSw; (try dsimp only at hSw); go_simp; (try with_reducible rfl))
              try simp only [Act.put, List.setIfInBounds_toArray, List.set_cons_zero, List.set_cons_succ]
              refine wpAnyH_take (i := 23) (oi := Oper.mk (some 124) (Op.move (Operand.tmp 123)) 4 "law.go:128" #[Edge.mk 22 Ground.data, Edge.mk 20 Ground.chain] none) (v := ?_) rfl (by kernel_rfl) (by kernel_rfl) (by kernel_rfl) (fun _ _ _ h => h) (Or.inl ⟨by rfl, ?_⟩) (by assumption) ?_
              rotate_left 1
              · (intro w hSw; (try dsimp only at hSw); go_simp; (try with_reducible rfl))
              try simp only [Act.put, List.setIfInBounds_toArray, List.set_cons_zero, List.set_cons_succ]
              refine wpAnyH_take (i := 24) (oi := Oper.mk (some 125) (Op.fieldAddr 63 (Operand.tmp 14) 0) 0 "law.go:128" #[Edge.mk 23 Ground.guard] (some (23, true))) (v := undef) rfl (by kernel_rfl) (by kernel_rfl) (by kernel_rfl) (fun _ _ _ h => h) (Or.inr ⟨by rfl, rfl⟩) (by assumption) ?_
              try simp only [Act.put, List.setIfInBounds_toArray, List.set_cons_zero, List.set_cons_succ]
              refine wpAnyH_take (i := 25) (oi := Oper.mk (some 126) (Op.load 9 (Operand.tmp 125)) 9 "law.go:128" #[Edge.mk 24 Ground.data, Edge.mk 23 Ground.guard] (some (23, true))) (v := undef) rfl (by kernel_rfl) (by kernel_rfl) (by kernel_rfl) (fun _ _ _ h => h) (Or.inr ⟨by rfl, rfl⟩) (by assumption) ?_
              try simp only [Act.put, List.setIfInBounds_toArray, List.set_cons_zero, List.set_cons_succ]
              refine wpAnyH_take (i := 26) (oi := Oper.mk (some 127) (Op.move (Operand.tmp 8)) 44 "law.go:128" #[Edge.mk 23 Ground.guard] (some (23, true))) (v := undef) rfl (by kernel_rfl) (by kernel_rfl) (by kernel_rfl) (fun _ _ _ h => h) (Or.inr ⟨by rfl, rfl⟩) (by assumption) ?_
              try simp only [Act.put, List.setIfInBounds_toArray, List.set_cons_zero, List.set_cons_succ]
              refine wpAnyH_take (i := 27) (oi := Oper.mk (some 128) (Op.move (Operand.tmp 8)) 44 "law.go:128" #[Edge.mk 23 Ground.guard] (some (23, true))) (v := undef) rfl (by kernel_rfl) (by kernel_rfl) (by kernel_rfl) (fun _ _ _ h => h) (Or.inr ⟨by rfl, rfl⟩) (by assumption) ?_
              try simp only [Act.put, List.setIfInBounds_toArray, List.set_cons_zero, List.set_cons_succ]
              refine wpAnyH_take (i := 28) (oi := Oper.mk (some 129) (Op.call (Call.mk (Callee.value (Operand.func 32)) #[Operand.tmp 128] #[44])) 3 "law.go:128" #[Edge.mk 27 Ground.data, Edge.mk 23 Ground.chain, Edge.mk 23 Ground.guard] (some (23, true))) (v := undef) rfl (by kernel_rfl) (by kernel_rfl) (by kernel_rfl) (fun _ _ _ h => h) (Or.inr ⟨by rfl, rfl⟩) (by assumption) ?_
              try simp only [Act.put, List.setIfInBounds_toArray, List.set_cons_zero, List.set_cons_succ]
              refine wpAnyH_take (i := 29) (oi := Oper.mk (some 130) (Op.indexAddr 44 (Operand.tmp 127) (Operand.tmp 129)) 0 "law.go:128" #[Edge.mk 26 Ground.data, Edge.mk 28 Ground.data, Edge.mk 23 Ground.guard] (some (23, true))) (v := undef) rfl (by kernel_rfl) (by kernel_rfl) (by kernel_rfl) (fun _ _ _ h => h) (Or.inr ⟨by rfl, rfl⟩) (by assumption) ?_
              try simp only [Act.put, List.setIfInBounds_toArray, List.set_cons_zero, List.set_cons_succ]
              refine wpAnyH_take (i := 30) (oi := Oper.mk (some 131) (Op.fieldAddr 63 (Operand.tmp 130) 0) 0 "law.go:128" #[Edge.mk 29 Ground.data, Edge.mk 23 Ground.guard] (some (23, true))) (v := undef) rfl (by kernel_rfl) (by kernel_rfl) (by kernel_rfl) (fun _ _ _ h => h) (Or.inr ⟨by rfl, rfl⟩) (by assumption) ?_
              try simp only [Act.put, List.setIfInBounds_toArray, List.set_cons_zero, List.set_cons_succ]
              refine wpAnyH_take (i := 31) (oi := Oper.mk (some 132) (Op.load 9 (Operand.tmp 131)) 9 "law.go:128" #[Edge.mk 30 Ground.data, Edge.mk 23 Ground.guard] (some (23, true))) (v := undef) rfl (by kernel_rfl) (by kernel_rfl) (by kernel_rfl) (fun _ _ _ h => h) (Or.inr ⟨by rfl, rfl⟩) (by assumption) ?_
              try simp only [Act.put, List.setIfInBounds_toArray, List.set_cons_zero, List.set_cons_succ]
              refine wpAnyH_take (i := 32) (oi := Oper.mk (some 133) (Op.binOp BinOp.eql 9 (Operand.tmp 126) (Operand.tmp 132) 9) 4 "law.go:128" #[Edge.mk 25 Ground.data, Edge.mk 31 Ground.data, Edge.mk 23 Ground.guard] (some (23, true))) (v := undef) rfl (by kernel_rfl) (by kernel_rfl) (by kernel_rfl) (fun _ _ _ h => h) (Or.inr ⟨by rfl, rfl⟩) (by assumption) ?_
              try simp only [Act.put, List.setIfInBounds_toArray, List.set_cons_zero, List.set_cons_succ]
              refine wpAnyH_take (i := 33) (oi := Oper.mk (some 134) (Op.pick (Operand.tmp 124) (Operand.tmp 133) (Operand.const (Value.bool false))) 4 "law.go:128" #[Edge.mk 23 Ground.data, Edge.mk 32 Ground.data] none) (v := ?_) rfl (by kernel_rfl) (by kernel_rfl) (by kernel_rfl) (fun _ _ _ h => h) (Or.inl ⟨by rfl, ?_⟩) (by assumption) ?_
              rotate_left 1
              · (intro w hSw; (try dsimp only at hSw); go_simp; (try with_reducible rfl))
              try simp only [Act.put, List.setIfInBounds_toArray, List.set_cons_zero, List.set_cons_succ]
              refine wpAnyH_done (by kernel_rfl) ?_ _
              go_wp2_with fail
              go_roundw
              case rel => exact ⟨k + 1, by omega, by go_num, Lib.hid (HB03.out.trans (HB0.out.mono HB03.out.size))⟩
              case measure => simp [intOf]; omega
            · have e1 : (mode == 1) = false := by simpa using m1
              clear m1 m2
              go_upto_region 21 with fail
              have SH : Hid (∀ W, Below W3.heap.size W3 W → W.cell? ⟨bp, 2, none⟩ = some (.int .i64 st) ∧ W.cell? ⟨gk, 0, none⟩ = some (.string s) ∧ W.cell? ⟨gk, 1, none⟩ = some (.int .i64 z)) := fun W hW => ⟨(KP3.out.below hW).cell 2 rfl, (K3.out.below hW).cell 0 rfl, (K3.out.below hW).cell 1 rfl⟩
              clear f0 f1 f2
              have HB0 := Lib.hid (show Below W3.heap.size W3 W3.drew from Below_drew (Below.refl _ _))
              obtain ⟨X0, hX0⟩ : ∃ X, X = W3.drew := ⟨_, rfl⟩
              refine wp_region_held_drew (S := (fun w' => w'.cell? ⟨bp, 2, none⟩ = some (.int .i64 st) ∧ w'.cell? ⟨gk, 0, none⟩ = some (.string s) ∧ w'.cell? ⟨gk, 1, none⟩ = some (.int .i64 z))) (by kernel_rfl) (SH.out _ HB0.out) (fun hH0 => ?_)
              rw [← hX0] at HB0 hH0 ⊢
              clear hX0
              refine wpAnyH_take (i := 0) (oi := Oper.mk (some 101) (Op.move (Operand.tmp 2)) 3 "law.go:128" #[] none) (v := ?_) rfl (by kernel_rfl) (by kernel_rfl) (by kernel_rfl) (fun _ _ _ h => h) (Or.inl ⟨by rfl, ?_⟩) (by assumption) ?_
              rotate_left 1
              · (intro w hSw; (try dsimp only at hSw); go_simp; (try with_reducible rfl))
              try simp only [Act.put, List.setIfInBounds_toArray, List.set_cons_zero, List.set_cons_succ]
              refine wpAnyH_take (i := 1) (oi := Oper.mk (some 102) (Op.binOp BinOp.eql 3 (Operand.tmp 101) (Operand.const (Value.int IntKind.i64 2)) 3) 4 "law.go:128" #[Edge.mk 0 Ground.data] none) (v := ?_) rfl (by kernel_rfl) (by kernel_rfl) (by kernel_rfl) (fun _ _ _ h => h) (Or.inl ⟨by rfl, ?_⟩) (by assumption) ?_
              rotate_left 1
              · (intro w hSw; (try dsimp only at hSw); go_simp; (try with_reducible rfl))
              try simp only [Act.put, List.setIfInBounds_toArray, List.set_cons_zero, List.set_cons_succ]
              refine wpAnyH_take (i := 2) (oi := Oper.mk (some 103) (Op.move (Operand.tmp 102)) 4 "law.go:128" #[Edge.mk 1 Ground.data] none) (v := ?_) rfl (by kernel_rfl) (by kernel_rfl) (by kernel_rfl) (fun _ _ _ h => h) (Or.inl ⟨by rfl, ?_⟩) (by assumption) ?_
              rotate_left 1
              · (intro w hSw; (try dsimp only at hSw); go_simp; (try with_reducible rfl))
              try simp only [Act.put, List.setIfInBounds_toArray, List.set_cons_zero, List.set_cons_succ]
              refine wpAnyH_take (i := 3) (oi := Oper.mk (some 104) (Op.fieldAddr 50 (Operand.tmp 9) 2) 0 "law.go:128" #[Edge.mk 2 Ground.guard] (some (2, true))) (v := undef) rfl (by kernel_rfl) (by kernel_rfl) (by kernel_rfl) (fun _ _ _ h => h) (Or.inr ⟨by rfl, rfl⟩) (by assumption) ?_
              try simp only [Act.put, List.setIfInBounds_toArray, List.set_cons_zero, List.set_cons_succ]
              refine wpAnyH_take (i := 4) (oi := Oper.mk (some 105) (Op.load 3 (Operand.tmp 104)) 3 "law.go:128" #[Edge.mk 3 Ground.data, Edge.mk 2 Ground.guard] (some (2, true))) (v := undef) rfl (by kernel_rfl) (by kernel_rfl) (by kernel_rfl) (fun _ _ _ h => h) (Or.inr ⟨by rfl, rfl⟩) (by assumption) ?_
              try simp only [Act.put, List.setIfInBounds_toArray, List.set_cons_zero, List.set_cons_succ]
              refine wpAnyH_take (i := 5) (oi := Oper.mk (some 106) (Op.binOp BinOp.eql 3 (Operand.tmp 105) (Operand.const (Value.int IntKind.i64 1)) 3) 4 "law.go:128" #[Edge.mk 4 Ground.data, Edge.mk 2 Ground.guard] (some (2, true))) (v := undef) rfl (by kernel_rfl) (by kernel_rfl) (by kernel_rfl) (fun _ _ _ h => h) (Or.inr ⟨by rfl, rfl⟩) (by assumption) ?_
              try simp only [Act.put, List.setIfInBounds_toArray, List.set_cons_zero, List.set_cons_succ]
              refine wpAnyH_take (i := 6) (oi := Oper.mk (some 107) (Op.pick (Operand.tmp 103) (Operand.tmp 106) (Operand.const (Value.bool false))) 4 "law.go:128" #[Edge.mk 2 Ground.data, Edge.mk 5 Ground.data] none) (v := ?_) rfl (by kernel_rfl) (by kernel_rfl) (by kernel_rfl) (fun _ _ _ h => h) (Or.inl ⟨by rfl, ?_⟩) (by assumption) ?_
              rotate_left 1
              · (intro w hSw; (try dsimp only at hSw); go_simp; (try with_reducible rfl))
              try simp only [Act.put, List.setIfInBounds_toArray, List.set_cons_zero, List.set_cons_succ]
              refine wpAnyH_take (i := 7) (oi := Oper.mk (some 108) (Op.move (Operand.tmp 107)) 4 "law.go:128" #[Edge.mk 6 Ground.data, Edge.mk 2 Ground.chain] none) (v := ?_) rfl (by kernel_rfl) (by kernel_rfl) (by kernel_rfl) (fun _ _ _ h => h) (Or.inl ⟨by rfl, ?_⟩) (by assumption) ?_
              rotate_left 1
              · (intro w hSw; (try dsimp only at hSw); go_simp; (try with_reducible rfl))
              try simp only [Act.put, List.setIfInBounds_toArray, List.set_cons_zero, List.set_cons_succ]
              refine wpAnyH_take (i := 8) (oi := Oper.mk (some 109) (Op.fieldAddr 63 (Operand.tmp 14) 1) 0 "law.go:128" #[Edge.mk 7 Ground.guard] (some (7, true))) (v := undef) rfl (by kernel_rfl) (by kernel_rfl) (by kernel_rfl) (fun _ _ _ h => h) (Or.inr ⟨by rfl, rfl⟩) (by assumption) ?_
              try simp only [Act.put, List.setIfInBounds_toArray, List.set_cons_zero, List.set_cons_succ]
              refine wpAnyH_take (i := 9) (oi := Oper.mk (some 110) (Op.load 3 (Operand.tmp 109)) 3 "law.go:128" #[Edge.mk 8 Ground.data, Edge.mk 7 Ground.guard] (some (7, true))) (v := undef) rfl (by kernel_rfl) (by kernel_rfl) (by kernel_rfl) (fun _ _ _ h => h) (Or.inr ⟨by rfl, rfl⟩) (by assumption) ?_
              try simp only [Act.put, List.setIfInBounds_toArray, List.set_cons_zero, List.set_cons_succ]
              refine wpAnyH_take (i := 10) (oi := Oper.mk (some 111) (Op.binOp BinOp.eql 3 (Operand.tmp 110) (Operand.const (Value.int IntKind.i64 5)) 3) 4 "law.go:128" #[Edge.mk 9 Ground.data, Edge.mk 7 Ground.guard] (some (7, true))) (v := undef) rfl (by kernel_rfl) (by kernel_rfl) (by kernel_rfl) (fun _ _ _ h => h) (Or.inr ⟨by rfl, rfl⟩) (by assumption) ?_
              try simp only [Act.put, List.setIfInBounds_toArray, List.set_cons_zero, List.set_cons_succ]
              refine wpAnyH_take (i := 11) (oi := Oper.mk (some 112) (Op.pick (Operand.tmp 108) (Operand.tmp 111) (Operand.const (Value.bool false))) 4 "law.go:128" #[Edge.mk 7 Ground.data, Edge.mk 10 Ground.data] none) (v := ?_) rfl (by kernel_rfl) (by kernel_rfl) (by kernel_rfl) (fun _ _ _ h => h) (Or.inl ⟨by rfl, ?_⟩) (by assumption) ?_
              rotate_left 1
              · (intro w hSw; (try dsimp only at hSw); go_simp; (try with_reducible rfl))
              try simp only [Act.put, List.setIfInBounds_toArray, List.set_cons_zero, List.set_cons_succ]
              refine wpAnyH_take (i := 12) (oi := Oper.mk (some 113) (Op.move (Operand.tmp 112)) 4 "law.go:128" #[Edge.mk 11 Ground.data, Edge.mk 7 Ground.chain] none) (v := ?_) rfl (by kernel_rfl) (by kernel_rfl) (by kernel_rfl) (fun _ _ _ h => h) (Or.inl ⟨by rfl, ?_⟩) (by assumption) ?_
              rotate_left 1
              · (intro w hSw; (try dsimp only at hSw); go_simp; (try with_reducible rfl))
              try simp only [Act.put, List.setIfInBounds_toArray, List.set_cons_zero, List.set_cons_succ]
              refine wpAnyH_take (i := 13) (oi := Oper.mk (some 114) (Op.move (Operand.tmp 13)) 3 "law.go:128" #[Edge.mk 12 Ground.guard] (some (12, true))) (v := undef) rfl (by kernel_rfl) (by kernel_rfl) (by kernel_rfl) (fun _ _ _ h => h) (Or.inr ⟨by rfl, rfl⟩) (by assumption) ?_
              try simp only [Act.put, List.setIfInBounds_toArray, List.set_cons_zero, List.set_cons_succ]
              refine wpAnyH_take (i := 14) (oi := Oper.mk (some 115) (Op.move (Operand.tmp 8)) 44 "law.go:128" #[Edge.mk 12 Ground.guard] (some (12, true))) (v := undef) rfl (by kernel_rfl) (by kernel_rfl) (by kernel_rfl) (fun _ _ _ h => h) (Or.inr ⟨by rfl, rfl⟩) (by assumption) ?_
              try simp only [Act.put, List.setIfInBounds_toArray, List.set_cons_zero, List.set_cons_succ]
              refine wpAnyH_take (i := 15) (oi := Oper.mk (some 116) (Op.call (Call.mk (Callee.builtin Builtin.len) #[Operand.tmp 115] #[44])) 3 "law.go:128" #[Edge.mk 14 Ground.data, Edge.mk 12 Ground.guard] (some (12, true))) (v := undef) rfl (by kernel_rfl) (by kernel_rfl) (by kernel_rfl) (fun _ _ _ h => h) (Or.inr ⟨by rfl, rfl⟩) (by assumption) ?_
              try simp only [Act.put, List.setIfInBounds_toArray, List.set_cons_zero, List.set_cons_succ]
              refine wpAnyH_take (i := 16) (oi := Oper.mk (some 117) (Op.binOp BinOp.lss 3 (Operand.tmp 114) (Operand.tmp 116) 3) 4 "law.go:128" #[Edge.mk 13 Ground.data, Edge.mk 15 Ground.data, Edge.mk 12 Ground.guard] (some (12, true))) (v := undef) rfl (by kernel_rfl) (by kernel_rfl) (by kernel_rfl) (fun _ _ _ h => h) (Or.inr ⟨by rfl, rfl⟩) (by assumption) ?_
              try simp only [Act.put, List.setIfInBounds_toArray, List.set_cons_zero, List.set_cons_succ]
              refine wpAnyH_take (i := 17) (oi := Oper.mk (some 118) (Op.pick (Operand.tmp 113) (Operand.tmp 117) (Operand.const (Value.bool false))) 4 "law.go:128" #[Edge.mk 12 Ground.data, Edge.mk 16 Ground.data] none) (v := ?_) rfl (by kernel_rfl) (by kernel_rfl) (by kernel_rfl) (fun _ _ _ h => h) (Or.inl ⟨by rfl, ?_⟩) (by assumption) ?_
              rotate_left 1
              · (intro w hSw; (try dsimp only at hSw); go_simp; (try with_reducible rfl))
              try simp only [Act.put, List.setIfInBounds_toArray, List.set_cons_zero, List.set_cons_succ]
              refine wpAnyH_take (i := 18) (oi := Oper.mk (some 119) (Op.move (Operand.tmp 118)) 4 "law.go:128" #[Edge.mk 17 Ground.data, Edge.mk 12 Ground.chain] none) (v := ?_) rfl (by kernel_rfl) (by kernel_rfl) (by kernel_rfl) (fun _ _ _ h => h) (Or.inl ⟨by rfl, ?_⟩) (by assumption) ?_
              rotate_left 1
              · (intro w hSw; (try dsimp only at hSw); go_simp; (try with_reducible rfl))
              try simp only [Act.put, List.setIfInBounds_toArray, List.set_cons_zero, List.set_cons_succ]
              refine wpAnyH_take (i := 19) (oi := Oper.mk (some 120) (Op.move (Operand.tmp 8)) 44 "law.go:128" #[Edge.mk 18 Ground.guard] (some (18, true))) (v := undef) rfl (by kernel_rfl) (by kernel_rfl) (by kernel_rfl) (fun _ _ _ h => h) (Or.inr ⟨by rfl, rfl⟩) (by assumption) ?_
              try simp only [Act.put, List.setIfInBounds_toArray, List.set_cons_zero, List.set_cons_succ]
              refine wpAnyH_take (i := 20) (oi := Oper.mk (some 121) (Op.call (Call.mk (Callee.value (Operand.func 32)) #[Operand.tmp 120] #[44])) 3 "law.go:128" #[Edge.mk 19 Ground.data, Edge.mk 18 Ground.chain, Edge.mk 18 Ground.guard] (some (18, true))) (v := undef) rfl (by kernel_rfl) (by kernel_rfl) (by kernel_rfl) (fun _ _ _ h => h) (Or.inr ⟨by rfl, rfl⟩) (by assumption) ?_
              try simp only [Act.put, List.setIfInBounds_toArray, List.set_cons_zero, List.set_cons_succ]
              refine wpAnyH_take (i := 21) (oi := Oper.mk (some 122) (Op.binOp BinOp.geq 3 (Operand.tmp 121) (Operand.const (Value.int IntKind.i64 0)) 3) 4 "law.go:128" #[Edge.mk 20 Ground.data, Edge.mk 18 Ground.guard] (some (18, true))) (v := undef) rfl (by kernel_rfl) (by kernel_rfl) (by kernel_rfl) (fun _ _ _ h => h) (Or.inr ⟨by rfl, rfl⟩) (by assumption) ?_
              try simp only [Act.put, List.setIfInBounds_toArray, List.set_cons_zero, List.set_cons_succ]
              refine wpAnyH_take (i := 22) (oi := Oper.mk (some 123) (Op.pick (Operand.tmp 119) (Operand.tmp 122) (Operand.const (Value.bool false))) 4 "law.go:128" #[Edge.mk 18 Ground.data, Edge.mk 21 Ground.data] none) (v := ?_) rfl (by kernel_rfl) (by kernel_rfl) (by kernel_rfl) (fun _ _ _ h => h) (Or.inl ⟨by rfl, ?_⟩) (by assumption) ?_
              rotate_left 1
              · (intro w hSw; (try dsimp only at hSw); go_simp; (try with_reducible rfl))
              try simp only [Act.put, List.setIfInBounds_toArray, List.set_cons_zero, List.set_cons_succ]
              refine wpAnyH_take (i := 23) (oi := Oper.mk (some 124) (Op.move (Operand.tmp 123)) 4 "law.go:128" #[Edge.mk 22 Ground.data, Edge.mk 20 Ground.chain] none) (v := ?_) rfl (by kernel_rfl) (by kernel_rfl) (by kernel_rfl) (fun _ _ _ h => h) (Or.inl ⟨by rfl, ?_⟩) (by assumption) ?_
              rotate_left 1
              · (intro w hSw; (try dsimp only at hSw); go_simp; (try with_reducible rfl))
              try simp only [Act.put, List.setIfInBounds_toArray, List.set_cons_zero, List.set_cons_succ]
              refine wpAnyH_take (i := 24) (oi := Oper.mk (some 125) (Op.fieldAddr 63 (Operand.tmp 14) 0) 0 "law.go:128" #[Edge.mk 23 Ground.guard] (some (23, true))) (v := undef) rfl (by kernel_rfl) (by kernel_rfl) (by kernel_rfl) (fun _ _ _ h => h) (Or.inr ⟨by rfl, rfl⟩) (by assumption) ?_
              try simp only [Act.put, List.setIfInBounds_toArray, List.set_cons_zero, List.set_cons_succ]
              refine wpAnyH_take (i := 25) (oi := Oper.mk (some 126) (Op.load 9 (Operand.tmp 125)) 9 "law.go:128" #[Edge.mk 24 Ground.data, Edge.mk 23 Ground.guard] (some (23, true))) (v := undef) rfl (by kernel_rfl) (by kernel_rfl) (by kernel_rfl) (fun _ _ _ h => h) (Or.inr ⟨by rfl, rfl⟩) (by assumption) ?_
              try simp only [Act.put, List.setIfInBounds_toArray, List.set_cons_zero, List.set_cons_succ]
              refine wpAnyH_take (i := 26) (oi := Oper.mk (some 127) (Op.move (Operand.tmp 8)) 44 "law.go:128" #[Edge.mk 23 Ground.guard] (some (23, true))) (v := undef) rfl (by kernel_rfl) (by kernel_rfl) (by kernel_rfl) (fun _ _ _ h => h) (Or.inr ⟨by rfl, rfl⟩) (by assumption) ?_
              try simp only [Act.put, List.setIfInBounds_toArray, List.set_cons_zero, List.set_cons_succ]
              refine wpAnyH_take (i := 27) (oi := Oper.mk (some 128) (Op.move (Operand.tmp 8)) 44 "law.go:128" #[Edge.mk 23 Ground.guard] (some (23, true))) (v := undef) rfl (by kernel_rfl) (by kernel_rfl) (by kernel_rfl) (fun _ _ _ h => h) (Or.inr ⟨by rfl, rfl⟩) (by assumption) ?_
              try simp only [Act.put, List.setIfInBounds_toArray, List.set_cons_zero, List.set_cons_succ]
              refine wpAnyH_take (i := 28) (oi := Oper.mk (some 129) (Op.call (Call.mk (Callee.value (Operand.func 32)) #[Operand.tmp 128] #[44])) 3 "law.go:128" #[Edge.mk 27 Ground.data, Edge.mk 23 Ground.chain, Edge.mk 23 Ground.guard] (some (23, true))) (v := undef) rfl (by kernel_rfl) (by kernel_rfl) (by kernel_rfl) (fun _ _ _ h => h) (Or.inr ⟨by rfl, rfl⟩) (by assumption) ?_
              try simp only [Act.put, List.setIfInBounds_toArray, List.set_cons_zero, List.set_cons_succ]
              refine wpAnyH_take (i := 29) (oi := Oper.mk (some 130) (Op.indexAddr 44 (Operand.tmp 127) (Operand.tmp 129)) 0 "law.go:128" #[Edge.mk 26 Ground.data, Edge.mk 28 Ground.data, Edge.mk 23 Ground.guard] (some (23, true))) (v := undef) rfl (by kernel_rfl) (by kernel_rfl) (by kernel_rfl) (fun _ _ _ h => h) (Or.inr ⟨by rfl, rfl⟩) (by assumption) ?_
              try simp only [Act.put, List.setIfInBounds_toArray, List.set_cons_zero, List.set_cons_succ]
              refine wpAnyH_take (i := 30) (oi := Oper.mk (some 131) (Op.fieldAddr 63 (Operand.tmp 130) 0) 0 "law.go:128" #[Edge.mk 29 Ground.data, Edge.mk 23 Ground.guard] (some (23, true))) (v := undef) rfl (by kernel_rfl) (by kernel_rfl) (by kernel_rfl) (fun _ _ _ h => h) (Or.inr ⟨by rfl, rfl⟩) (by assumption) ?_
              try simp only [Act.put, List.setIfInBounds_toArray, List.set_cons_zero, List.set_cons_succ]
              refine wpAnyH_take (i := 31) (oi := Oper.mk (some 132) (Op.load 9 (Operand.tmp 131)) 9 "law.go:128" #[Edge.mk 30 Ground.data, Edge.mk 23 Ground.guard] (some (23, true))) (v := undef) rfl (by kernel_rfl) (by kernel_rfl) (by kernel_rfl) (fun _ _ _ h => h) (Or.inr ⟨by rfl, rfl⟩) (by assumption) ?_
              try simp only [Act.put, List.setIfInBounds_toArray, List.set_cons_zero, List.set_cons_succ]
              refine wpAnyH_take (i := 32) (oi := Oper.mk (some 133) (Op.binOp BinOp.eql 9 (Operand.tmp 126) (Operand.tmp 132) 9) 4 "law.go:128" #[Edge.mk 25 Ground.data, Edge.mk 31 Ground.data, Edge.mk 23 Ground.guard] (some (23, true))) (v := undef) rfl (by kernel_rfl) (by kernel_rfl) (by kernel_rfl) (fun _ _ _ h => h) (Or.inr ⟨by rfl, rfl⟩) (by assumption) ?_
              try simp only [Act.put, List.setIfInBounds_toArray, List.set_cons_zero, List.set_cons_succ]
              refine wpAnyH_take (i := 33) (oi := Oper.mk (some 134) (Op.pick (Operand.tmp 124) (Operand.tmp 133) (Operand.const (Value.bool false))) 4 "law.go:128" #[Edge.mk 23 Ground.data, Edge.mk 32 Ground.data] none) (v := ?_) rfl (by kernel_rfl) (by kernel_rfl) (by kernel_rfl) (fun _ _ _ h => h) (Or.inl ⟨by rfl, ?_⟩) (by assumption) ?_
              rotate_left 1
              · (intro w hSw; (try dsimp only at hSw); go_simp; (try with_reducible rfl))
              try simp only [Act.put, List.setIfInBounds_toArray, List.set_cons_zero, List.set_cons_succ]
              refine wpAnyH_done (by kernel_rfl) ?_ _
              go_wp2_with fail
              go_roundw
              case rel => exact ⟨k + 1, by omega, by go_num, Lib.hid (HB03.out.trans (HB0.out.mono HB03.out.size))⟩
              case measure => simp [intOf]; omega
        · obtain rfl : M = k := by omega
          go_wp2
          go_ret
          exact ⟨rfl, HB8.out.trans (hbel.out.mono HB8.out.size)⟩
    · rw [hc, show oI2 (some a) = (a : Int) from rfl] at C8
      have hkm : kq.toList.isEmpty = false := str_ne hk
      clear hc hk
      go_wp2_with fail
      refine C8.out.mono ?_
      rintro e w8 ⟨rfl, hb8⟩
      have T88 := Lib.hid (T87.out.below hb8)
      have T68 := Lib.hid (T67.out.below hb8)
      have HB8 := Lib.hid (HB7.out.trans (hb8.mono HB7.out.size))
      have KP8 := Lib.hid (KP7.out.below hb8)
      clear hb8 T87 T67 HB7 KP7 C8
      obtain ⟨b8, o8, rfl, hbb, hx0, hx1⟩ := at_sk T88.out (k := a) (by have := HM.out; omega)
      rw [hka] at hx0
      have HKA := Lib.hid hka
      obtain ⟨za, hza⟩ : ∃ y, y = (sk Y a).2 := ⟨_, rfl⟩
      rw [← hza] at hx1
      have HX1 := Lib.hid hx1
      have hst : (kq.toList == kq.toList) = true := by simp
      have ha0 : (0 : Int) ≤ (a : Int) := by omega
      have ha1 : (a : Int) < (M : Int) := by omega
      clear hza hka hx1
      go_upto_region 17 with fail
      clear hx0
      go_loopw [72] (fun i wr => ∃ k : Nat, k ≤ M ∧ i = .int .i64 k ∧ Hid (Below w8.heap.size w8 wr)) (fun i _ => M - (intOf i).toNat)
      case atStart => exact ⟨0, Nat.zero_le _, rfl, Below.refl _ _⟩
      case round =>
        obtain ⟨k, hk, rfl, hbel⟩ := hrel
        by_cases hlt : k < M
        · obtain ⟨b1, o1, hAe, hb1, hc0, hc1⟩ := at_sk T88.out (k := k) (by have := HM.out; omega)
          injection hAe with e2
          injection e2 with e3 e4
          subst e3 e4
          have hd0 := (hbel.out.cell (p := ⟨b8, o8 + k * 2, none⟩) hb1).trans hc0
          have hd1 := (hbel.out.cell (p := ⟨b8, o8 + k * 2 + 1, none⟩) hb1).trans hc1
          have hio : mode = 2 → st = 1 → ∀ a, cur X = some a → (sk Y k).2 = 5 → (sk Y k).1 ≠ (sk X a).1 := fun h1 h2 a ha h5 => HIO.out h1 h2 a ha k hlt h5
          generalize (sk Y k).1 = s at *
          generalize (sk Y k).2 = z at *
          have HIK := Lib.hid hio
          have hwr := hbel.out.size
          obtain ⟨gk, hgk⟩ : ∃ g, g = wr.heap.size := ⟨_, rfl⟩
          obtain ⟨W3, hW3⟩ : ∃ W, W = wr.alloc (.cells #[.string s, .int .i64 z] 63) := ⟨_, rfl⟩
          have K3 := Lib.hid (show Blk W3 gk 63 #[.string s, .int .i64 z] by rw [hW3, hgk]; exact Blk.new wr _ _)
          have hb83 : Below w8.heap.size w8 W3 := by rw [hW3]; exact hbel.out.alloc hwr _
          have HB83 := Lib.hid hb83
          have HB03 := Lib.hid (show Below w8.heap.size w8 W3 from hb83)
          have KP3 := Lib.hid (KP8.out.below hb83)
          have T63 := Lib.hid (T68.out.below hb83)
          have HW3 := Lib.hid hW3
          have HGK := Lib.hid hgk
          clear hio hc0 hc1 hW3 hgk hb83
          go_upto_region 19 with fail
          rw [← HW3.out, ← HGK.out]
          clear hd0 hd1
          have f0 := KP3.out.cell 2 (v := .int .i64 st) rfl
          have f1 := K3.out.cell 0 (v := .string s) rfl
          have f2 := K3.out.cell 1 (v := .int .i64 z) rfl
          by_cases m2 : mode = 2
          · have e2 : (mode == 2) = true := by simpa using m2
            have e1 : (mode == 1) = false := by rw [beq_eq_false_iff_ne]; omega
            by_cases s1 : st = 1
            · have e3 : (st == 1) = true := by simpa using s1
              by_cases z5 : z = 5
              · have e5 : (z == 5) = true := by simpa using z5
                by_cases hkN : k < N
                · have hkN2 : (k : Int) < (N : Int) := by omega
                  obtain hcx | ⟨a2, hcx⟩ : cur X = none ∨ ∃ a, cur X = some a := by
                    cases cur X with
                    | none => exact .inl rfl
                    | some a => exact .inr ⟨a, rfl⟩
                  · have CX := Lib.hid (fun W (hW : Below W3.heap.size W3 W) => rcurrent_any A6 N c6 X W LX.out (by omega) (T63.out.below hW))
                    rw [hcx, show oI2 none = -2 from rfl] at CX
                    clear hcx m2 s1 z5
                    go_upto_region 21 with fail
                    have SH : Hid (∀ W, Below W3.heap.size W3 W → W.cell? ⟨bp, 2, none⟩ = some (.int .i64 st) ∧ W.cell? ⟨gk, 0, none⟩ = some (.string s) ∧ W.cell? ⟨gk, 1, none⟩ = some (.int .i64 z)) := fun W hW => ⟨(KP3.out.below hW).cell 2 rfl, (K3.out.below hW).cell 0 rfl, (K3.out.below hW).cell 1 rfl⟩
                    clear f0 f1 f2
                    have HB0 := Lib.hid (show Below W3.heap.size W3 W3.drew from Below_drew (Below.refl _ _))
                    obtain ⟨X0, hX0⟩ : ∃ X, X = W3.drew := ⟨_, rfl⟩
                    refine wp_region_held_drew (S := (fun w' => w'.cell? ⟨bp, 2, none⟩ = some (.int .i64 st) ∧ w'.cell? ⟨gk, 0, none⟩ = some (.string s) ∧ w'.cell? ⟨gk, 1, none⟩ = some (.int .i64 z))) (by kernel_rfl) (SH.out _ HB0.out) (fun hH0 => ?_)
                    rw [← hX0] at HB0 hH0 ⊢
                    clear hX0
                    refine wpAnyH_take (i := 0) (oi := Oper.mk (some 101) (Op.move (Operand.tmp 2)) 3 "law.go:128" #[] none) (v := ?_) rfl (by kernel_rfl) (by kernel_rfl) (by kernel_rfl) (fun _ _ _ h => h) (Or.inl ⟨by rfl, ?_⟩) (by assumption) ?_
                    rotate_left 1
                    · (intro w hSw; (try dsimp only at hSw); go_simp; (try with_reducible rfl))
                    try simp only [Act.put, List.setIfInBounds_toArray, List.set_cons_zero, List.set_cons_succ]
                    refine wpAnyH_take (i := 1) (oi := Oper.mk (some 102) (Op.binOp BinOp.eql 3 (Operand.tmp 101) (Operand.const (Value.int IntKind.i64 2)) 3) 4 "law.go:128" #[Edge.mk 0 Ground.data] none) (v := ?_) rfl (by kernel_rfl) (by kernel_rfl) (by kernel_rfl) (fun _ _ _ h => h) (Or.inl ⟨by rfl, ?_⟩) (by assumption) ?_
                    rotate_left 1
                    · (intro w hSw; (try dsimp only at hSw); go_simp; (try with_reducible rfl))
                    try simp only [Act.put, List.setIfInBounds_toArray, List.set_cons_zero, List.set_cons_succ]
                    refine wpAnyH_take (i := 2) (oi := Oper.mk (some 103) (Op.move (Operand.tmp 102)) 4 "law.go:128" #[Edge.mk 1 Ground.data] none) (v := ?_) rfl (by kernel_rfl) (by kernel_rfl) (by kernel_rfl) (fun _ _ _ h => h) (Or.inl ⟨by rfl, ?_⟩) (by assumption) ?_
                    rotate_left 1
                    · (intro w hSw; (try dsimp only at hSw); go_simp; (try with_reducible rfl))
                    try simp only [Act.put, List.setIfInBounds_toArray, List.set_cons_zero, List.set_cons_succ]
                    refine wpAnyH_take (i := 3) (oi := Oper.mk (some 104) (Op.fieldAddr 50 (Operand.tmp 9) 2) 0 "law.go:128" #[Edge.mk 2 Ground.guard] (some (2, true))) (v := ?_) rfl (by kernel_rfl) (by kernel_rfl) (by kernel_rfl) (fun _ _ _ h => h) (Or.inl ⟨by rfl, ?_⟩) (by assumption) ?_
                    rotate_left 1
                    · (intro w hSw; (try dsimp only at hSw); go_simp; (try with_reducible rfl))
                    try simp only [Act.put, List.setIfInBounds_toArray, List.set_cons_zero, List.set_cons_succ]
                    refine wpAnyH_take (i := 4) (oi := Oper.mk (some 105) (Op.load 3 (Operand.tmp 104)) 3 "law.go:128" #[Edge.mk 3 Ground.data, Edge.mk 2 Ground.guard] (some (2, true))) (v := ?_) rfl (by kernel_rfl) (by kernel_rfl) (by kernel_rfl) (fun _ _ _ h => h) (Or.inl ⟨by rfl, ?_⟩) (by assumption) ?_
                    rotate_left 1
                    · (intro w hSw; (try dsimp only at hSw); go_simp; (try with_reducible rfl))
                    try simp only [Act.put, List.setIfInBounds_toArray, List.set_cons_zero, List.set_cons_succ]
                    refine wpAnyH_take (i := 5) (oi := Oper.mk (some 106) (Op.binOp BinOp.eql 3 (Operand.tmp 105) (Operand.const (Value.int IntKind.i64 1)) 3) 4 "law.go:128" #[Edge.mk 4 Ground.data, Edge.mk 2 Ground.guard] (some (2, true))) (v := ?_) rfl (by kernel_rfl) (by kernel_rfl) (by kernel_rfl) (fun _ _ _ h => h) (Or.inl ⟨by rfl, ?_⟩) (by assumption) ?_
                    rotate_left 1
                    · (intro w hSw; (try dsimp only at hSw); go_simp; (try with_reducible rfl))
                    try simp only [Act.put, List.setIfInBounds_toArray, List.set_cons_zero, List.set_cons_succ]
                    refine wpAnyH_take (i := 6) (oi := Oper.mk (some 107) (Op.pick (Operand.tmp 103) (Operand.tmp 106) (Operand.const (Value.bool false))) 4 "law.go:128" #[Edge.mk 2 Ground.data, Edge.mk 5 Ground.data] none) (v := ?_) rfl (by kernel_rfl) (by kernel_rfl) (by kernel_rfl) (fun _ _ _ h => h) (Or.inl ⟨by rfl, ?_⟩) (by assumption) ?_
                    rotate_left 1
                    · (intro w hSw; (try dsimp only at hSw); go_simp; (try with_reducible rfl))
                    try simp only [Act.put, List.setIfInBounds_toArray, List.set_cons_zero, List.set_cons_succ]
                    refine wpAnyH_take (i := 7) (oi := Oper.mk (some 108) (Op.move (Operand.tmp 107)) 4 "law.go:128" #[Edge.mk 6 Ground.data, Edge.mk 2 Ground.chain] none) (v := ?_) rfl (by kernel_rfl) (by kernel_rfl) (by kernel_rfl) (fun _ _ _ h => h) (Or.inl ⟨by rfl, ?_⟩) (by assumption) ?_
                    rotate_left 1
                    · (intro w hSw; (try dsimp only at hSw); go_simp; (try with_reducible rfl))
                    try simp only [Act.put, List.setIfInBounds_toArray, List.set_cons_zero, List.set_cons_succ]
                    refine wpAnyH_take (i := 8) (oi := Oper.mk (some 109) (Op.fieldAddr 63 (Operand.tmp 14) 1) 0 "law.go:128" #[Edge.mk 7 Ground.guard] (some (7, true))) (v := ?_) rfl (by kernel_rfl) (by kernel_rfl) (by kernel_rfl) (fun _ _ _ h => h) (Or.inl ⟨by rfl, ?_⟩) (by assumption) ?_
                    rotate_left 1
                    · (intro w hSw; (try dsimp only at hSw); go_simp; (try with_reducible rfl))
                    try simp only [Act.put, List.setIfInBounds_toArray, List.set_cons_zero, List.set_cons_succ]
                    refine wpAnyH_take (i := 9) (oi := Oper.mk (some 110) (Op.load 3 (Operand.tmp 109)) 3 "law.go:128" #[Edge.mk 8 Ground.data, Edge.mk 7 Ground.guard] (some (7, true))) (v := ?_) rfl (by kernel_rfl) (by kernel_rfl) (by kernel_rfl) (fun _ _ _ h => h) (Or.inl ⟨by rfl, ?_⟩) (by assumption) ?_
                    rotate_left 1
                    · (intro w hSw; (try dsimp only at hSw); go_simp; (try with_reducible rfl))
                    try simp only [Act.put, List.setIfInBounds_toArray, List.set_cons_zero, List.set_cons_succ]
                    refine wpAnyH_take (i := 10) (oi := Oper.mk (some 111) (Op.binOp BinOp.eql 3 (Operand.tmp 110) (Operand.const (Value.int IntKind.i64 5)) 3) 4 "law.go:128" #[Edge.mk 9 Ground.data, Edge.mk 7 Ground.guard] (some (7, true))) (v := ?_) rfl (by kernel_rfl) (by kernel_rfl) (by kernel_rfl) (fun _ _ _ h => h) (Or.inl ⟨by rfl, ?_⟩) (by assumption) ?_
                    rotate_left 1
                    · (intro w hSw; (try dsimp only at hSw); go_simp; (try with_reducible rfl))
                    try simp only [Act.put, List.setIfInBounds_toArray, List.set_cons_zero, List.set_cons_succ]
                    refine wpAnyH_take (i := 11) (oi := Oper.mk (some 112) (Op.pick (Operand.tmp 108) (Operand.tmp 111) (Operand.const (Value.bool false))) 4 "law.go:128" #[Edge.mk 7 Ground.data, Edge.mk 10 Ground.data] none) (v := ?_) rfl (by kernel_rfl) (by kernel_rfl) (by kernel_rfl) (fun _ _ _ h => h) (Or.inl ⟨by rfl, ?_⟩) (by assumption) ?_
                    rotate_left 1
                    · (intro w hSw; (try dsimp only at hSw); go_simp; (try with_reducible rfl))
                    try simp only [Act.put, List.setIfInBounds_toArray, List.set_cons_zero, List.set_cons_succ]
                    refine wpAnyH_take (i := 12) (oi := Oper.mk (some 113) (Op.move (Operand.tmp 112)) 4 "law.go:128" #[Edge.mk 11 Ground.data, Edge.mk 7 Ground.chain] none) (v := ?_) rfl (by kernel_rfl) (by kernel_rfl) (by kernel_rfl) (fun _ _ _ h => h) (Or.inl ⟨by rfl, ?_⟩) (by assumption) ?_
                    rotate_left 1
                    · (intro w hSw; (try dsimp only at hSw); go_simp; (try with_reducible rfl))
                    try simp only [Act.put, List.setIfInBounds_toArray, List.set_cons_zero, List.set_cons_succ]
                    refine wpAnyH_take (i := 13) (oi := Oper.mk (some 114) (Op.move (Operand.tmp 13)) 3 "law.go:128" #[Edge.mk 12 Ground.guard] (some (12, true))) (v := ?_) rfl (by kernel_rfl) (by kernel_rfl) (by kernel_rfl) (fun _ _ _ h => h) (Or.inl ⟨by rfl, ?_⟩) (by assumption) ?_
                    rotate_left 1
                    · (intro w hSw; (try dsimp only at hSw); go_simp; (try with_reducible rfl))
                    try simp only [Act.put, List.setIfInBounds_toArray, List.set_cons_zero, List.set_cons_succ]
                    refine wpAnyH_take (i := 14) (oi := Oper.mk (some 115) (Op.move (Operand.tmp 8)) 44 "law.go:128" #[Edge.mk 12 Ground.guard] (some (12, true))) (v := ?_) rfl (by kernel_rfl) (by kernel_rfl) (by kernel_rfl) (fun _ _ _ h => h) (Or.inl ⟨by rfl, ?_⟩) (by assumption) ?_
                    rotate_left 1
                    · (intro w hSw; (try dsimp only at hSw); go_simp; (try with_reducible rfl))
                    try simp only [Act.put, List.setIfInBounds_toArray, List.set_cons_zero, List.set_cons_succ]
                    refine wpAnyH_take (i := 15) (oi := Oper.mk (some 116) (Op.call (Call.mk (Callee.builtin Builtin.len) #[Operand.tmp 115] #[44])) 3 "law.go:128" #[Edge.mk 14 Ground.data, Edge.mk 12 Ground.guard] (some (12, true))) (v := ?_) rfl (by kernel_rfl) (by kernel_rfl) (by kernel_rfl) (fun _ _ _ h => h) (Or.inl ⟨by rfl, ?_⟩) (by assumption) ?_
                    rotate_left 1
                    · (intro w hSw; (try dsimp only at hSw); go_simp; (try with_reducible rfl))
                    try simp only [Act.put, List.setIfInBounds_toArray, List.set_cons_zero, List.set_cons_succ]
                    refine wpAnyH_take (i := 16) (oi := Oper.mk (some 117) (Op.binOp BinOp.lss 3 (Operand.tmp 114) (Operand.tmp 116) 3) 4 "law.go:128" #[Edge.mk 13 Ground.data, Edge.mk 15 Ground.data, Edge.mk 12 Ground.guard] (some (12, true))) (v := ?_) rfl (by kernel_rfl) (by kernel_rfl) (by kernel_rfl) (fun _ _ _ h => h) (Or.inl ⟨by rfl, ?_⟩) (by assumption) ?_
                    rotate_left 1
                    · (intro w hSw; (try dsimp only at hSw); go_simp; (try with_reducible rfl))
                    try simp only [Act.put, List.setIfInBounds_toArray, List.set_cons_zero, List.set_cons_succ]
                    refine wpAnyH_take (i := 17) (oi := Oper.mk (some 118) (Op.pick (Operand.tmp 113) (Operand.tmp 117) (Operand.const (Value.bool false))) 4 "law.go:128" #[Edge.mk 12 Ground.data, Edge.mk 16 Ground.data] none) (v := ?_) rfl (by kernel_rfl) (by kernel_rfl) (by kernel_rfl) (fun _ _ _ h => h) (Or.inl ⟨by rfl, ?_⟩) (by assumption) ?_
                    rotate_left 1
                    · (intro w hSw; (try dsimp only at hSw); go_simp; (try with_reducible rfl))
                    try simp only [Act.put, List.setIfInBounds_toArray, List.set_cons_zero, List.set_cons_succ]
                    refine wpAnyH_take (i := 18) (oi := Oper.mk (some 119) (Op.move (Operand.tmp 118)) 4 "law.go:128" #[Edge.mk 17 Ground.data, Edge.mk 12 Ground.chain] none) (v := ?_) rfl (by kernel_rfl) (by kernel_rfl) (by kernel_rfl) (fun _ _ _ h => h) (Or.inl ⟨by rfl, ?_⟩) (by assumption) ?_
                    rotate_left 1
                    · (intro w hSw; (try dsimp only at hSw); go_simp; (try with_reducible rfl))
                    try simp only [Act.put, List.setIfInBounds_toArray, List.set_cons_zero, List.set_cons_succ]
                    refine wpAnyH_take (i := 19) (oi := Oper.mk (some 120) (Op.move (Operand.tmp 8)) 44 "law.go:128" #[Edge.mk 18 Ground.guard] (some (18, true))) (v := ?_) rfl (by kernel_rfl) (by kernel_rfl) (by kernel_rfl) (fun _ _ _ h => h) (Or.inl ⟨by rfl, ?_⟩) (by assumption) ?_
                    rotate_left 1
                    · (intro w hSw; (try dsimp only at hSw); go_simp; (try with_reducible rfl))
                    try simp only [Act.put, List.setIfInBounds_toArray, List.set_cons_zero, List.set_cons_succ]
                    refine wpAnyH_ready (rs := [20]) (by kernel_rfl) (by simp) ?_
                    refine (AllReadyH.cons (o := Oper.mk (some 121) (Op.call (Call.mk (Callee.value (Operand.func 32)) #[Operand.tmp 120] #[44])) 3 "law.go:128" #[Edge.mk 19 Ground.data, Edge.mk 18 Ground.chain, Edge.mk 18 Ground.guard] (some (18, true))) rfl (fun K hK => ?_) AllReadyH.nil)
                    go_simp
                    go_at_call 32
                    (with_reducible refine (CX.out _ HB0.out).mono ?_)
                    rintro e9 X1 ⟨rfl, hb⟩
                    have HB1 := Lib.hid (HB0.out.trans (hb.mono HB0.out.size))
                    clear hb HB0
                    go_wp2_with fail
                    refine hK.out _ _ ?_ (fun hH1 => ?_)
                    · exact SH.out _ HB1.out
                    clear hK K
                    try clear hH0
                    try simp only [Act.put, List.setIfInBounds_toArray, List.set_cons_zero, List.set_cons_succ]
                    refine wpAnyH_take (i := 21) (oi := Oper.mk (some 122) (Op.binOp BinOp.geq 3 (Operand.tmp 121) (Operand.const (Value.int IntKind.i64 0)) 3) 4 "law.go:128" #[Edge.mk 20 Ground.data, Edge.mk 18 Ground.guard] (some (18, true))) (v := ?_) rfl (by kernel_rfl) (by kernel_rfl) (by kernel_rfl) (fun _ _ _ h => h) (Or.inl ⟨by rfl, ?_⟩) (by assumption) ?_
                    rotate_left 1
                    · (intro w hSw; (try dsimp only at hSw); go_simp; (try with_reducible rfl))
                    try simp only [Act.put, List.setIfInBounds_toArray, List.set_cons_zero, List.set_cons_succ]
                    refine wpAnyH_take (i := 22) (oi := Oper.mk (some 123) (Op.pick (Operand.tmp 119) (Operand.tmp 122) (Operand.const (Value.bool false))) 4 "law.go:128" #[Edge.mk 18 Ground.data, Edge.mk 21 Ground.data] none) (v := ?_) rfl (by kernel_rfl) (by kernel_rfl) (by kernel_rfl) (fun _ _ _ h => h) (Or.inl ⟨by rfl, ?_⟩) (by assumption) ?_
                    rotate_left 1
                    · (intro w hSw; (try dsimp only at hSw); go_simp; (try with_reducible rfl))
                    try simp only [Act.put, List.setIfInBounds_toArray, List.set_cons_zero, List.set_cons_succ]
                    refine wpAnyH_take (i := 23) (oi := Oper.mk (some 124) (Op.move (Operand.tmp 123)) 4 "law.go:128" #[Edge.mk 22 Ground.data, Edge.mk 20 Ground.chain] none) (v := ?_) rfl (by kernel_rfl) (by kernel_rfl) (by kernel_rfl) (fun _ _ _ h => h) (Or.inl ⟨by rfl, ?_⟩) (by assumption) ?_
                    rotate_left 1
                    · (intro w hSw; (try dsimp only at hSw); go_simp; (try with_reducible rfl))
                    try simp only [Act.put, List.setIfInBounds_toArray, List.set_cons_zero, List.set_cons_succ]
                    refine wpAnyH_take (i := 24) (oi := Oper.mk (some 125) (Op.fieldAddr 63 (Operand.tmp 14) 0) 0 "law.go:128" #[Edge.mk 23 Ground.guard] (some (23, true))) (v := undef) rfl (by kernel_rfl) (by kernel_rfl) (by kernel_rfl) (fun _ _ _ h => h) (Or.inr ⟨by rfl, rfl⟩) (by assumption) ?_
                    try simp only [Act.put, List.setIfInBounds_toArray, List.set_cons_zero, List.set_cons_succ]
                    refine wpAnyH_take (i := 25) (oi := Oper.mk (some 126) (Op.load 9 (Operand.tmp 125)) 9 "law.go:128" #[Edge.mk 24 Ground.data, Edge.mk 23 Ground.guard] (some (23, true))) (v := undef) rfl (by kernel_rfl) (by kernel_rfl) (by kernel_rfl) (fun _ _ _ h => h) (Or.inr ⟨by rfl, rfl⟩) (by assumption) ?_
                    try simp only [Act.put, List.setIfInBounds_toArray, List.set_cons_zero, List.set_cons_succ]
                    refine wpAnyH_take (i := 26) (oi := Oper.mk (some 127) (Op.move (Operand.tmp 8)) 44 "law.go:128" #[Edge.mk 23 Ground.guard] (some (23, true))) (v := undef) rfl (by kernel_rfl) (by kernel_rfl) (by kernel_rfl) (fun _ _ _ h => h) (Or.inr ⟨by rfl, rfl⟩) (by assumption) ?_
                    try simp only [Act.put, List.setIfInBounds_toArray, List.set_cons_zero, List.set_cons_succ]
                    refine wpAnyH_take (i := 27) (oi := Oper.mk (some 128) (Op.move (Operand.tmp 8)) 44 "law.go:128" #[Edge.mk 23 Ground.guard] (some (23, true))) (v := undef) rfl (by kernel_rfl) (by kernel_rfl) (by kernel_rfl) (fun _ _ _ h => h) (Or.inr ⟨by rfl, rfl⟩) (by assumption) ?_
                    try simp only [Act.put, List.setIfInBounds_toArray, List.set_cons_zero, List.set_cons_succ]
                    refine wpAnyH_take (i := 28) (oi := Oper.mk (some 129) (Op.call (Call.mk (Callee.value (Operand.func 32)) #[Operand.tmp 128] #[44])) 3 "law.go:128" #[Edge.mk 27 Ground.data, Edge.mk 23 Ground.chain, Edge.mk 23 Ground.guard] (some (23, true))) (v := undef) rfl (by kernel_rfl) (by kernel_rfl) (by kernel_rfl) (fun _ _ _ h => h) (Or.inr ⟨by rfl, rfl⟩) (by assumption) ?_
                    try simp only [Act.put, List.setIfInBounds_toArray, List.set_cons_zero, List.set_cons_succ]
                    refine wpAnyH_take (i := 29) (oi := Oper.mk (some 130) (Op.indexAddr 44 (Operand.tmp 127) (Operand.tmp 129)) 0 "law.go:128" #[Edge.mk 26 Ground.data, Edge.mk 28 Ground.data, Edge.mk 23 Ground.guard] (some (23, true))) (v := undef) rfl (by kernel_rfl) (by kernel_rfl) (by kernel_rfl) (fun _ _ _ h => h) (Or.inr ⟨by rfl, rfl⟩) (by assumption) ?_
                    try simp only [Act.put, List.setIfInBounds_toArray, List.set_cons_zero, List.set_cons_succ]
                    refine wpAnyH_take (i := 30) (oi := Oper.mk (some 131) (Op.fieldAddr 63 (Operand.tmp 130) 0) 0 "law.go:128" #[Edge.mk 29 Ground.data, Edge.mk 23 Ground.guard] (some (23, true))) (v := undef) rfl (by kernel_rfl) (by kernel_rfl) (by kernel_rfl) (fun _ _ _ h => h) (Or.inr ⟨by rfl, rfl⟩) (by assumption) ?_
                    try simp only [Act.put, List.setIfInBounds_toArray, List.set_cons_zero, List.set_cons_succ]
                    refine wpAnyH_take (i := 31) (oi := Oper.mk (some 132) (Op.load 9 (Operand.tmp 131)) 9 "law.go:128" #[Edge.mk 30 Ground.data, Edge.mk 23 Ground.guard] (some (23, true))) (v := undef) rfl (by kernel_rfl) (by kernel_rfl) (by kernel_rfl) (fun _ _ _ h => h) (Or.inr ⟨by rfl, rfl⟩) (by assumption) ?_
                    try simp only [Act.put, List.setIfInBounds_toArray, List.set_cons_zero, List.set_cons_succ]
                    refine wpAnyH_take (i := 32) (oi := Oper.mk (some 133) (Op.binOp BinOp.eql 9 (Operand.tmp 126) (Operand.tmp 132) 9) 4 "law.go:128" #[Edge.mk 25 Ground.data, Edge.mk 31 Ground.data, Edge.mk 23 Ground.guard] (some (23, true))) (v := undef) rfl (by kernel_rfl) (by kernel_rfl) (by kernel_rfl) (fun _ _ _ h => h) (Or.inr ⟨by rfl, rfl⟩) (by assumption) ?_
                    try simp only [Act.put, List.setIfInBounds_toArray, List.set_cons_zero, List.set_cons_succ]
                    refine wpAnyH_take (i := 33) (oi := Oper.mk (some 134) (Op.pick (Operand.tmp 124) (Operand.tmp 133) (Operand.const (Value.bool false))) 4 "law.go:128" #[Edge.mk 23 Ground.data, Edge.mk 32 Ground.data] none) (v := ?_) rfl (by kernel_rfl) (by kernel_rfl) (by kernel_rfl) (fun _ _ _ h => h) (Or.inl ⟨by rfl, ?_⟩) (by assumption) ?_
                    rotate_left 1
                    · (intro w hSw; (try dsimp only at hSw); go_simp; (try with_reducible rfl))
                    try simp only [Act.put, List.setIfInBounds_toArray, List.set_cons_zero, List.set_cons_succ]
                    refine wpAnyH_done (by kernel_rfl) ?_ _
                    go_wp2_with fail
                    go_roundw
                    case rel => exact ⟨k + 1, by omega, by go_num, Lib.hid (HB03.out.trans (HB1.out.mono HB03.out.size))⟩
                    case measure => simp [intOf]; omega
                  · have CX := Lib.hid (fun W (hW : Below W3.heap.size W3 W) => rcurrent_any A6 N c6 X W LX.out (by omega) (T63.out.below hW))
                    have ha2 := (cur_some hcx).1
                    have hne := HIK.out m2 s1 a2 hcx z5
                    rw [hcx, show oI2 (some a2) = (a2 : Int) from rfl] at CX
                    obtain ⟨bx, ox, rfl, hbx, hcx0, _⟩ := at_sk T63.out (k := a2) ha2
                    generalize (sk X a2).1 = sa at *
                    have hcx := Lib.hid hcx0
                    have hse : (s.toList == sa.toList) = false := Go.Proofs.Ytfapghekakdpgaa.M.str_no hne
                    have hi0 : (0 : Int) ≤ (a2 : Int) := by omega
                    have hi1 : (a2 : Int) < (N : Int) := by have := LX.out; omega
                    clear hcx0 hne ha2 m2 s1 z5
                    go_upto_region 21 with fail
                    have SH : Hid (∀ W, Below W3.heap.size W3 W → W.cell? ⟨bp, 2, none⟩ = some (.int .i64 st) ∧ W.cell? ⟨gk, 0, none⟩ = some (.string s) ∧ W.cell? ⟨gk, 1, none⟩ = some (.int .i64 z) ∧ W.cell? ⟨bx, ox + a2 * 2, none⟩ = some (.string sa)) := fun W hW => ⟨(KP3.out.below hW).cell 2 rfl, (K3.out.below hW).cell 0 rfl, (K3.out.below hW).cell 1 rfl, (hW.cell hbx).trans hcx.out⟩
                    clear f0 f1 f2
                    have HB0 := Lib.hid (show Below W3.heap.size W3 W3.drew from Below_drew (Below.refl _ _))
                    obtain ⟨X0, hX0⟩ : ∃ X, X = W3.drew := ⟨_, rfl⟩
                    refine wp_region_held_drew (S := (fun w' => w'.cell? ⟨bp, 2, none⟩ = some (.int .i64 st) ∧ w'.cell? ⟨gk, 0, none⟩ = some (.string s) ∧ w'.cell? ⟨gk, 1, none⟩ = some (.int .i64 z) ∧ w'.cell? ⟨bx, ox + a2 * 2, none⟩ = some (.string sa))) (by kernel_rfl) (SH.out _ HB0.out) (fun hH0 => ?_)
                    rw [← hX0] at HB0 hH0 ⊢
                    clear hX0
                    refine wpAnyH_take (i := 0) (oi := Oper.mk (some 101) (Op.move (Operand.tmp 2)) 3 "law.go:128" #[] none) (v := ?_) rfl (by kernel_rfl) (by kernel_rfl) (by kernel_rfl) (fun _ _ _ h => h) (Or.inl ⟨by rfl, ?_⟩) (by assumption) ?_
                    rotate_left 1
                    · (intro w hSw; (try dsimp only at hSw); go_simp; (try with_reducible rfl))
                    try simp only [Act.put, List.setIfInBounds_toArray, List.set_cons_zero, List.set_cons_succ]
                    refine wpAnyH_take (i := 1) (oi := Oper.mk (some 102) (Op.binOp BinOp.eql 3 (Operand.tmp 101) (Operand.const (Value.int IntKind.i64 2)) 3) 4 "law.go:128" #[Edge.mk 0 Ground.data] none) (v := ?_) rfl (by kernel_rfl) (by kernel_rfl) (by kernel_rfl) (fun _ _ _ h => h) (Or.inl ⟨by rfl, ?_⟩) (by assumption) ?_
                    rotate_left 1
                    · (intro w hSw; (try dsimp only at hSw); go_simp; (try with_reducible rfl))
                    try simp only [Act.put, List.setIfInBounds_toArray, List.set_cons_zero, List.set_cons_succ]
                    refine wpAnyH_take (i := 2) (oi := Oper.mk (some 103) (Op.move (Operand.tmp 102)) 4 "law.go:128" #[Edge.mk 1 Ground.data] none) (v := ?_) rfl (by kernel_rfl) (by kernel_rfl) (by kernel_rfl) (fun _ _ _ h => h) (Or.inl ⟨by rfl, ?_⟩) (by assumption) ?_
                    rotate_left 1
                    · (intro w hSw; (try dsimp only at hSw); go_simp; (try with_reducible rfl))
                    try simp only [Act.put, List.setIfInBounds_toArray, List.set_cons_zero, List.set_cons_succ]
                    refine wpAnyH_take (i := 3) (oi := Oper.mk (some 104) (Op.fieldAddr 50 (Operand.tmp 9) 2) 0 "law.go:128" #[Edge.mk 2 Ground.guard] (some (2, true))) (v := ?_) rfl (by kernel_rfl) (by kernel_rfl) (by kernel_rfl) (fun _ _ _ h => h) (Or.inl ⟨by rfl, ?_⟩) (by assumption) ?_
                    rotate_left 1
                    · (intro w hSw; (try dsimp only at hSw); go_simp; (try with_reducible rfl))
                    try simp only [Act.put, List.setIfInBounds_toArray, List.set_cons_zero, List.set_cons_succ]
                    refine wpAnyH_take (i := 4) (oi := Oper.mk (some 105) (Op.load 3 (Operand.tmp 104)) 3 "law.go:128" #[Edge.mk 3 Ground.data, Edge.mk 2 Ground.guard] (some (2, true))) (v := ?_) rfl (by kernel_rfl) (by kernel_rfl) (by kernel_rfl) (fun _ _ _ h => h) (Or.inl ⟨by rfl, ?_⟩) (by assumption) ?_
                    rotate_left 1
                    · (intro w hSw; (try dsimp only at hSw); go_simp; (try with_reducible rfl))
                    try simp only [Act.put, List.setIfInBounds_toArray, List.set_cons_zero, List.set_cons_succ]
                    refine wpAnyH_take (i := 5) (oi := Oper.mk (some 106) (Op.binOp BinOp.eql 3 (Operand.tmp 105) (Operand.const (Value.int IntKind.i64 1)) 3) 4 "law.go:128" #[Edge.mk 4 Ground.data, Edge.mk 2 Ground.guard] (some (2, true))) (v := ?_) rfl (by kernel_rfl) (by kernel_rfl) (by kernel_rfl) (fun _ _ _ h => h) (Or.inl ⟨by rfl, ?_⟩) (by assumption) ?_
                    rotate_left 1
                    · (intro w hSw; (try dsimp only at hSw); go_simp; (try with_reducible rfl))
                    try simp only [Act.put, List.setIfInBounds_toArray, List.set_cons_zero, List.set_cons_succ]
                    refine wpAnyH_take (i := 6) (oi := Oper.mk (some 107) (Op.pick (Operand.tmp 103) (Operand.tmp 106) (Operand.const (Value.bool false))) 4 "law.go:128" #[Edge.mk 2 Ground.data, Edge.mk 5 Ground.data] none) (v := ?_) rfl (by kernel_rfl) (by kernel_rfl) (by kernel_rfl) (fun _ _ _ h => h) (Or.inl ⟨by rfl, ?_⟩) (by assumption) ?_
                    rotate_left 1
                    · (intro w hSw; (try dsimp only at hSw); go_simp; (try with_reducible rfl))
                    try simp only [Act.put, List.setIfInBounds_toArray, List.set_cons_zero, List.set_cons_succ]
                    refine wpAnyH_take (i := 7) (oi := Oper.mk (some 108) (Op.move (Operand.tmp 107)) 4 "law.go:128" #[Edge.mk 6 Ground.data, Edge.mk 2 Ground.chain] none) (v := ?_) rfl (by kernel_rfl) (by kernel_rfl) (by kernel_rfl) (fun _ _ _ h => h) (Or.inl ⟨by rfl, ?_⟩) (by assumption) ?_
                    rotate_left 1
                    · (intro w hSw; (try dsimp only at hSw); go_simp; (try with_reducible rfl))
                    try simp only [Act.put, List.setIfInBounds_toArray, List.set_cons_zero, List.set_cons_succ]
                    refine wpAnyH_take (i := 8) (oi := Oper.mk (some 109) (Op.fieldAddr 63 (Operand.tmp 14) 1) 0 "law.go:128" #[Edge.mk 7 Ground.guard] (some (7, true))) (v := ?_) rfl (by kernel_rfl) (by kernel_rfl) (by kernel_rfl) (fun _ _ _ h => h) (Or.inl ⟨by rfl, ?_⟩) (by assumption) ?_
                    rotate_left 1
                    · (intro w hSw; (try dsimp only at hSw); go_simp; (try with_reducible rfl))
                    try simp only [Act.put, List.setIfInBounds_toArray, List.set_cons_zero, List.set_cons_succ]
                    refine wpAnyH_take (i := 9) (oi := Oper.mk (some 110) (Op.load 3 (Operand.tmp 109)) 3 "law.go:128" #[Edge.mk 8 Ground.data, Edge.mk 7 Ground.guard] (some (7, true))) (v := ?_) rfl (by kernel_rfl) (by kernel_rfl) (by kernel_rfl) (fun _ _ _ h => h) (Or.inl ⟨by rfl, ?_⟩) (by assumption) ?_
                    rotate_left 1
                    · (intro w hSw; (try dsimp only at hSw); go_simp; (try with_reducible rfl))
                    try simp only [Act.put, List.setIfInBounds_toArray, List.set_cons_zero, List.set_cons_succ]
                    refine wpAnyH_take (i := 10) (oi := Oper.mk (some 111) (Op.binOp BinOp.eql 3 (Operand.tmp 110) (Operand.const (Value.int IntKind.i64 5)) 3) 4 "law.go:128" #[Edge.mk 9 Ground.data, Edge.mk 7 Ground.guard] (some (7, true))) (v := ?_) rfl (by kernel_rfl) (by kernel_rfl) (by kernel_rfl) (fun _ _ _ h => h) (Or.inl ⟨by rfl, ?_⟩) (by assumption) ?_
                    rotate_left 1
                    · (intro w hSw; (try dsimp only at hSw); go_simp; (try with_reducible rfl))
                    try simp only [Act.put, List.setIfInBounds_toArray, List.set_cons_zero, List.set_cons_succ]
                    refine wpAnyH_take (i := 11) (oi := Oper.mk (some 112) (Op.pick (Operand.tmp 108) (Operand.tmp 111) (Operand.const (Value.bool false))) 4 "law.go:128" #[Edge.mk 7 Ground.data, Edge.mk 10 Ground.data] none) (v := ?_) rfl (by kernel_rfl) (by kernel_rfl) (by kernel_rfl) (fun _ _ _ h => h) (Or.inl ⟨by rfl, ?_⟩) (by assumption) ?_
                    rotate_left 1
                    · (intro w hSw; (try dsimp only at hSw); go_simp; (try with_reducible rfl))
                    try simp only [Act.put, List.setIfInBounds_toArray, List.set_cons_zero, List.set_cons_succ]
                    refine wpAnyH_take (i := 12) (oi := Oper.mk (some 113) (Op.move (Operand.tmp 112)) 4 "law.go:128" #[Edge.mk 11 Ground.data, Edge.mk 7 Ground.chain] none) (v := ?_) rfl (by kernel_rfl) (by kernel_rfl) (by kernel_rfl) (fun _ _ _ h => h) (Or.inl ⟨by rfl, ?_⟩) (by assumption) ?_
                    rotate_left 1
                    · (intro w hSw; (try dsimp only at hSw); go_simp; (try with_reducible rfl))
                    try simp only [Act.put, List.setIfInBounds_toArray, List.set_cons_zero, List.set_cons_succ]
                    refine wpAnyH_take (i := 13) (oi := Oper.mk (some 114) (Op.move (Operand.tmp 13)) 3 "law.go:128" #[Edge.mk 12 Ground.guard] (some (12, true))) (v := ?_) rfl (by kernel_rfl) (by kernel_rfl) (by kernel_rfl) (fun _ _ _ h => h) (Or.inl ⟨by rfl, ?_⟩) (by assumption) ?_
                    rotate_left 1
                    · (intro w hSw; (try dsimp only at hSw); go_simp; (try with_reducible rfl))
                    try simp only [Act.put, List.setIfInBounds_toArray, List.set_cons_zero, List.set_cons_succ]
                    refine wpAnyH_take (i := 14) (oi := Oper.mk (some 115) (Op.move (Operand.tmp 8)) 44 "law.go:128" #[Edge.mk 12 Ground.guard] (some (12, true))) (v := ?_) rfl (by kernel_rfl) (by kernel_rfl) (by kernel_rfl) (fun _ _ _ h => h) (Or.inl ⟨by rfl, ?_⟩) (by assumption) ?_
                    rotate_left 1
                    · (intro w hSw; (try dsimp only at hSw); go_simp; (try with_reducible rfl))
                    try simp only [Act.put, List.setIfInBounds_toArray, List.set_cons_zero, List.set_cons_succ]
                    refine wpAnyH_take (i := 15) (oi := Oper.mk (some 116) (Op.call (Call.mk (Callee.builtin Builtin.len) #[Operand.tmp 115] #[44])) 3 "law.go:128" #[Edge.mk 14 Ground.data, Edge.mk 12 Ground.guard] (some (12, true))) (v := ?_) rfl (by kernel_rfl) (by kernel_rfl) (by kernel_rfl) (fun _ _ _ h => h) (Or.inl ⟨by rfl, ?_⟩) (by assumption) ?_
                    rotate_left 1
                    · (intro w hSw; (try dsimp only at hSw); go_simp; (try with_reducible rfl))
                    try simp only [Act.put, List.setIfInBounds_toArray, List.set_cons_zero, List.set_cons_succ]
                    refine wpAnyH_take (i := 16) (oi := Oper.mk (some 117) (Op.binOp BinOp.lss 3 (Operand.tmp 114) (Operand.tmp 116) 3) 4 "law.go:128" #[Edge.mk 13 Ground.data, Edge.mk 15 Ground.data, Edge.mk 12 Ground.guard] (some (12, true))) (v := ?_) rfl (by kernel_rfl) (by kernel_rfl) (by kernel_rfl) (fun _ _ _ h => h) (Or.inl ⟨by rfl, ?_⟩) (by assumption) ?_
                    rotate_left 1
                    · (intro w hSw; (try dsimp only at hSw); go_simp; (try with_reducible rfl))
                    try simp only [Act.put, List.setIfInBounds_toArray, List.set_cons_zero, List.set_cons_succ]
                    refine wpAnyH_take (i := 17) (oi := Oper.mk (some 118) (Op.pick (Operand.tmp 113) (Operand.tmp 117) (Operand.const (Value.bool false))) 4 "law.go:128" #[Edge.mk 12 Ground.data, Edge.mk 16 Ground.data] none) (v := ?_) rfl (by kernel_rfl) (by kernel_rfl) (by kernel_rfl) (fun _ _ _ h => h) (Or.inl ⟨by rfl, ?_⟩) (by assumption) ?_
                    rotate_left 1
                    · (intro w hSw; (try dsimp only at hSw); go_simp; (try with_reducible rfl))
                    try simp only [Act.put, List.setIfInBounds_toArray, List.set_cons_zero, List.set_cons_succ]
                    refine wpAnyH_take (i := 18) (oi := Oper.mk (some 119) (Op.move (Operand.tmp 118)) 4 "law.go:128" #[Edge.mk 17 Ground.data, Edge.mk 12 Ground.chain] none) (v := ?_) rfl (by kernel_rfl) (by kernel_rfl) (by kernel_rfl) (fun _ _ _ h => h) (Or.inl ⟨by rfl, ?_⟩) (by assumption) ?_
                    rotate_left 1
                    · (intro w hSw; (try dsimp only at hSw); go_simp; (try with_reducible rfl))
                    try simp only [Act.put, List.setIfInBounds_toArray, List.set_cons_zero, List.set_cons_succ]
                    refine wpAnyH_take (i := 19) (oi := Oper.mk (some 120) (Op.move (Operand.tmp 8)) 44 "law.go:128" #[Edge.mk 18 Ground.guard] (some (18, true))) (v := ?_) rfl (by kernel_rfl) (by kernel_rfl) (by kernel_rfl) (fun _ _ _ h => h) (Or.inl ⟨by rfl, ?_⟩) (by assumption) ?_
                    rotate_left 1
                    · (intro w hSw; (try dsimp only at hSw); go_simp; (try with_reducible rfl))
                    try simp only [Act.put, List.setIfInBounds_toArray, List.set_cons_zero, List.set_cons_succ]
                    refine wpAnyH_ready (rs := [20]) (by kernel_rfl) (by simp) ?_
                    refine (AllReadyH.cons (o := Oper.mk (some 121) (Op.call (Call.mk (Callee.value (Operand.func 32)) #[Operand.tmp 120] #[44])) 3 "law.go:128" #[Edge.mk 19 Ground.data, Edge.mk 18 Ground.chain, Edge.mk 18 Ground.guard] (some (18, true))) rfl (fun K hK => ?_) AllReadyH.nil)
                    go_simp
                    go_at_call 32
                    (with_reducible refine (CX.out _ HB0.out).mono ?_)
                    rintro e9 X1 ⟨rfl, hb⟩
                    have HB1 := Lib.hid (HB0.out.trans (hb.mono HB0.out.size))
                    clear hb HB0
                    go_wp2_with fail
                    refine hK.out _ _ ?_ (fun hH1 => ?_)
                    · exact SH.out _ HB1.out
                    clear hK K
                    try clear hH0
                    try simp only [Act.put, List.setIfInBounds_toArray, List.set_cons_zero, List.set_cons_succ]
                    refine wpAnyH_take (i := 21) (oi := Oper.mk (some 122) (Op.binOp BinOp.geq 3 (Operand.tmp 121) (Operand.const (Value.int IntKind.i64 0)) 3) 4 "law.go:128" #[Edge.mk 20 Ground.data, Edge.mk 18 Ground.guard] (some (18, true))) (v := ?_) rfl (by kernel_rfl) (by kernel_rfl) (by kernel_rfl) (fun _ _ _ h => h) (Or.inl ⟨by rfl, ?_⟩) (by assumption) ?_
                    rotate_left 1
                    · (intro w hSw; (try dsimp only at hSw); go_simp; (try with_reducible rfl))
                    try simp only [Act.put, List.setIfInBounds_toArray, List.set_cons_zero, List.set_cons_succ]
                    refine wpAnyH_take (i := 22) (oi := Oper.mk (some 123) (Op.pick (Operand.tmp 119) (Operand.tmp 122) (Operand.const (Value.bool false))) 4 "law.go:128" #[Edge.mk 18 Ground.data, Edge.mk 21 Ground.data] none) (v := ?_) rfl (by kernel_rfl) (by kernel_rfl) (by kernel_rfl) (fun _ _ _ h => h) (Or.inl ⟨by rfl, ?_⟩) (by assumption) ?_
                    rotate_left 1
                    · (intro w hSw; (try dsimp only at hSw); go_simp; (try with_reducible rfl))
                    try simp only [Act.put, List.setIfInBounds_toArray, List.set_cons_zero, List.set_cons_succ]
                    refine wpAnyH_take (i := 23) (oi := Oper.mk (some 124) (Op.move (Operand.tmp 123)) 4 "law.go:128" #[Edge.mk 22 Ground.data, Edge.mk 20 Ground.chain] none) (v := ?_) rfl (by kernel_rfl) (by kernel_rfl) (by kernel_rfl) (fun _ _ _ h => h) (Or.inl ⟨by rfl, ?_⟩) (by assumption) ?_
                    rotate_left 1
                    · (intro w hSw; (try dsimp only at hSw); go_simp; (try with_reducible rfl))
                    try simp only [Act.put, List.setIfInBounds_toArray, List.set_cons_zero, List.set_cons_succ]
                    refine wpAnyH_take (i := 24) (oi := Oper.mk (some 125) (Op.fieldAddr 63 (Operand.tmp 14) 0) 0 "law.go:128" #[Edge.mk 23 Ground.guard] (some (23, true))) (v := ?_) rfl (by kernel_rfl) (by kernel_rfl) (by kernel_rfl) (fun _ _ _ h => h) (Or.inl ⟨by rfl, ?_⟩) (by assumption) ?_
                    rotate_left 1
                    · (intro w hSw; (try dsimp only at hSw); go_simp; (try with_reducible rfl))
                    try simp only [Act.put, List.setIfInBounds_toArray, List.set_cons_zero, List.set_cons_succ]
                    refine wpAnyH_take (i := 25) (oi := Oper.mk (some 126) (Op.load 9 (Operand.tmp 125)) 9 "law.go:128" #[Edge.mk 24 Ground.data, Edge.mk 23 Ground.guard] (some (23, true))) (v := ?_) rfl (by kernel_rfl) (by kernel_rfl) (by kernel_rfl) (fun _ _ _ h => h) (Or.inl ⟨by rfl, ?_⟩) (by assumption) ?_
                    rotate_left 1
                    · (intro w hSw; (try dsimp only at hSw); go_simp; (try with_reducible rfl))
                    try simp only [Act.put, List.setIfInBounds_toArray, List.set_cons_zero, List.set_cons_succ]
                    refine wpAnyH_take (i := 26) (oi := Oper.mk (some 127) (Op.move (Operand.tmp 8)) 44 "law.go:128" #[Edge.mk 23 Ground.guard] (some (23, true))) (v := ?_) rfl (by kernel_rfl) (by kernel_rfl) (by kernel_rfl) (fun _ _ _ h => h) (Or.inl ⟨by rfl, ?_⟩) (by assumption) ?_
                    rotate_left 1
                    · (intro w hSw; (try dsimp only at hSw); go_simp; (try with_reducible rfl))
                    try simp only [Act.put, List.setIfInBounds_toArray, List.set_cons_zero, List.set_cons_succ]
                    refine wpAnyH_take (i := 27) (oi := Oper.mk (some 128) (Op.move (Operand.tmp 8)) 44 "law.go:128" #[Edge.mk 23 Ground.guard] (some (23, true))) (v := ?_) rfl (by kernel_rfl) (by kernel_rfl) (by kernel_rfl) (fun _ _ _ h => h) (Or.inl ⟨by rfl, ?_⟩) (by assumption) ?_
                    rotate_left 1
                    · (intro w hSw; (try dsimp only at hSw); go_simp; (try with_reducible rfl))
                    try simp only [Act.put, List.setIfInBounds_toArray, List.set_cons_zero, List.set_cons_succ]
                    refine wpAnyH_ready (rs := [28]) (by kernel_rfl) (by simp) ?_
                    refine (AllReadyH.cons (o := Oper.mk (some 129) (Op.call (Call.mk (Callee.value (Operand.func 32)) #[Operand.tmp 128] #[44])) 3 "law.go:128" #[Edge.mk 27 Ground.data, Edge.mk 23 Ground.chain, Edge.mk 23 Ground.guard] (some (23, true))) rfl (fun K hK => ?_) AllReadyH.nil)
                    go_simp
                    go_at_call 32
                    (with_reducible refine (CX.out _ HB1.out).mono ?_)
                    rintro e9 X2 ⟨rfl, hb⟩
                    have HB2 := Lib.hid (HB1.out.trans (hb.mono HB1.out.size))
                    clear hb HB1
                    go_wp2_with fail
                    refine hK.out _ _ ?_ (fun hH2 => ?_)
                    · exact SH.out _ HB2.out
                    clear hK K
                    try clear hH1
                    try simp only [Act.put, List.setIfInBounds_toArray, List.set_cons_zero, List.set_cons_succ]
                    refine wpAnyH_take (i := 29) (oi := Oper.mk (some 130) (Op.indexAddr 44 (Operand.tmp 127) (Operand.tmp 129)) 0 "law.go:128" #[Edge.mk 26 Ground.data, Edge.mk 28 Ground.data, Edge.mk 23 Ground.guard] (some (23, true))) (v := ?_) rfl (by kernel_rfl) (by kernel_rfl) (by kernel_rfl) (fun _ _ _ h => h) (Or.inl ⟨by rfl, ?_⟩) (by assumption) ?_
                    rotate_left 1
                    · (intro w hSw; (try dsimp only at hSw); go_simp; (try with_reducible rfl))
                    try simp only [Act.put, List.setIfInBounds_toArray, List.set_cons_zero, List.set_cons_succ]
                    refine wpAnyH_take (i := 30) (oi := Oper.mk (some 131) (Op.fieldAddr 63 (Operand.tmp 130) 0) 0 "law.go:128" #[Edge.mk 29 Ground.data, Edge.mk 23 Ground.guard] (some (23, true))) (v := ?_) rfl (by kernel_rfl) (by kernel_rfl) (by kernel_rfl) (fun _ _ _ h => h) (Or.inl ⟨by rfl, ?_⟩) (by assumption) ?_
                    rotate_left 1
                    · (intro w hSw; (try dsimp only at hSw); go_simp; (try with_reducible rfl))
                    try simp only [Act.put, List.setIfInBounds_toArray, List.set_cons_zero, List.set_cons_succ]
                    refine wpAnyH_take (i := 31) (oi := Oper.mk (some 132) (Op.load 9 (Operand.tmp 131)) 9 "law.go:128" #[Edge.mk 30 Ground.data, Edge.mk 23 Ground.guard] (some (23, true))) (v := ?_) rfl (by kernel_rfl) (by kernel_rfl) (by kernel_rfl) (fun _ _ _ h => h) (Or.inl ⟨by rfl, ?_⟩) (by assumption) ?_
                    rotate_left 1
                    · (intro w hSw; (try dsimp only at hSw); go_simp; (try with_reducible rfl))
                    try simp only [Act.put, List.setIfInBounds_toArray, List.set_cons_zero, List.set_cons_succ]
                    refine wpAnyH_take (i := 32) (oi := Oper.mk (some 133) (Op.binOp BinOp.eql 9 (Operand.tmp 126) (Operand.tmp 132) 9) 4 "law.go:128" #[Edge.mk 25 Ground.data, Edge.mk 31 Ground.data, Edge.mk 23 Ground.guard] (some (23, true))) (v := ?_) rfl (by kernel_rfl) (by kernel_rfl) (by kernel_rfl) (fun _ _ _ h => h) (Or.inl ⟨by rfl, ?_⟩) (by assumption) ?_
                    rotate_left 1
                    · (intro w hSw; (try dsimp only at hSw); go_simp; (try with_reducible rfl))
                    try simp only [Act.put, List.setIfInBounds_toArray, List.set_cons_zero, List.set_cons_succ]
                    refine wpAnyH_take (i := 33) (oi := Oper.mk (some 134) (Op.pick (Operand.tmp 124) (Operand.tmp 133) (Operand.const (Value.bool false))) 4 "law.go:128" #[Edge.mk 23 Ground.data, Edge.mk 32 Ground.data] none) (v := ?_) rfl (by kernel_rfl) (by kernel_rfl) (by kernel_rfl) (fun _ _ _ h => h) (Or.inl ⟨by rfl, ?_⟩) (by assumption) ?_
                    rotate_left 1
                    · (intro w hSw; (try dsimp only at hSw); go_simp; (try with_reducible rfl))
                    try simp only [Act.put, List.setIfInBounds_toArray, List.set_cons_zero, List.set_cons_succ]
                    refine wpAnyH_done (by kernel_rfl) ?_ _
                    go_wp2_with fail
                    go_roundw
                    case rel => exact ⟨k + 1, by omega, by go_num, Lib.hid (HB03.out.trans (HB2.out.mono HB03.out.size))⟩
                    case measure => simp [intOf]; omega
                · have hkN2 : ¬ (k : Int) < (N : Int) := by omega
                  clear m2 s1 z5
                  go_upto_region 21 with fail
                  have SH : Hid (∀ W, Below W3.heap.size W3 W → W.cell? ⟨bp, 2, none⟩ = some (.int .i64 st) ∧ W.cell? ⟨gk, 0, none⟩ = some (.string s) ∧ W.cell? ⟨gk, 1, none⟩ = some (.int .i64 z)) := fun W hW => ⟨(KP3.out.below hW).cell 2 rfl, (K3.out.below hW).cell 0 rfl, (K3.out.below hW).cell 1 rfl⟩
                  clear f0 f1 f2
                  have HB0 := Lib.hid (show Below W3.heap.size W3 W3.drew from Below_drew (Below.refl _ _))
                  obtain ⟨X0, hX0⟩ : ∃ X, X = W3.drew := ⟨_, rfl⟩
                  refine wp_region_held_drew (S := (fun w' => w'.cell? ⟨bp, 2, none⟩ = some (.int .i64 st) ∧ w'.cell? ⟨gk, 0, none⟩ = some (.string s) ∧ w'.cell? ⟨gk, 1, none⟩ = some (.int .i64 z))) (by kernel_rfl) (SH.out _ HB0.out) (fun hH0 => ?_)
                  rw [← hX0] at HB0 hH0 ⊢
                  clear hX0
                  refine wpAnyH_take (i := 0) (oi := Oper.mk (some 101) (Op.move (Operand.tmp 2)) 3 "law.go:128" #[] none) (v := ?_) rfl (by kernel_rfl) (by kernel_rfl) (by kernel_rfl) (fun _ _ _ h => h) (Or.inl ⟨by rfl, ?_⟩) (by assumption) ?_
                  rotate_left 1
                  · (intro w hSw; (try dsimp only at hSw); go_simp; (try with_reducible rfl))
                  try simp only [Act.put, List.setIfInBounds_toArray, List.set_cons_zero, List.set_cons_succ]
                  refine wpAnyH_take (i := 1) (oi := Oper.mk (some 102) (Op.binOp BinOp.eql 3 (Operand.tmp 101) (Operand.const (Value.int IntKind.i64 2)) 3) 4 "law.go:128" #[Edge.mk 0 Ground.data] none) (v := ?_) rfl (by kernel_rfl) (by kernel_rfl) (by kernel_rfl) (fun _ _ _ h => h) (Or.inl ⟨by rfl, ?_⟩) (by assumption) ?_
                  rotate_left 1
                  · (intro w hSw; (try dsimp only at hSw); go_simp; (try with_reducible rfl))
                  try simp only [Act.put, List.setIfInBounds_toArray, List.set_cons_zero, List.set_cons_succ]
                  refine wpAnyH_take (i := 2) (oi := Oper.mk (some 103) (Op.move (Operand.tmp 102)) 4 "law.go:128" #[Edge.mk 1 Ground.data] none) (v := ?_) rfl (by kernel_rfl) (by kernel_rfl) (by kernel_rfl) (fun _ _ _ h => h) (Or.inl ⟨by rfl, ?_⟩) (by assumption) ?_
                  rotate_left 1
                  · (intro w hSw; (try dsimp only at hSw); go_simp; (try with_reducible rfl))
                  try simp only [Act.put, List.setIfInBounds_toArray, List.set_cons_zero, List.set_cons_succ]
                  refine wpAnyH_take (i := 3) (oi := Oper.mk (some 104) (Op.fieldAddr 50 (Operand.tmp 9) 2) 0 "law.go:128" #[Edge.mk 2 Ground.guard] (some (2, true))) (v := ?_) rfl (by kernel_rfl) (by kernel_rfl) (by kernel_rfl) (fun _ _ _ h => h) (Or.inl ⟨by rfl, ?_⟩) (by assumption) ?_
                  rotate_left 1
                  · (intro w hSw; (try dsimp only at hSw); go_simp; (try with_reducible rfl))
                  try simp only [Act.put, List.setIfInBounds_toArray, List.set_cons_zero, List.set_cons_succ]
                  refine wpAnyH_take (i := 4) (oi := Oper.mk (some 105) (Op.load 3 (Operand.tmp 104)) 3 "law.go:128" #[Edge.mk 3 Ground.data, Edge.mk 2 Ground.guard] (some (2, true))) (v := ?_) rfl (by kernel_rfl) (by kernel_rfl) (by kernel_rfl) (fun _ _ _ h => h) (Or.inl ⟨by rfl, ?_⟩) (by assumption) ?_
                  rotate_left 1
                  · (intro w hSw; (try dsimp only at hSw); go_simp; (try with_reducible rfl))
                  try simp only [Act.put, List.setIfInBounds_toArray, List.set_cons_zero, List.set_cons_succ]
                  refine wpAnyH_take (i := 5) (oi := Oper.mk (some 106) (Op.binOp BinOp.eql 3 (Operand.tmp 105) (Operand.const (Value.int IntKind.i64 1)) 3) 4 "law.go:128" #[Edge.mk 4 Ground.data, Edge.mk 2 Ground.guard] (some (2, true))) (v := ?_) rfl (by kernel_rfl) (by kernel_rfl) (by kernel_rfl) (fun _ _ _ h => h) (Or.inl ⟨by rfl, ?_⟩) (by assumption) ?_
                  rotate_left 1
                  · (intro w hSw; (try dsimp only at hSw); go_simp; (try with_reducible rfl))
                  try simp only [Act.put, List.setIfInBounds_toArray, List.set_cons_zero, List.set_cons_succ]
                  refine wpAnyH_take (i := 6) (oi := Oper.mk (some 107) (Op.pick (Operand.tmp 103) (Operand.tmp 106) (Operand.const (Value.bool false))) 4 "law.go:128" #[Edge.mk 2 Ground.data, Edge.mk 5 Ground.data] none) (v := ?_) rfl (by kernel_rfl) (by kernel_rfl) (by kernel_rfl) (fun _ _ _ h => h) (Or.inl ⟨by rfl, ?_⟩) (by assumption) ?_
                  rotate_left 1
                  · (intro w hSw; (try dsimp only at hSw); go_simp; (try with_reducible rfl))
                  try simp only [Act.put, List.setIfInBounds_toArray, List.set_cons_zero, List.set_cons_succ]
                  refine wpAnyH_take (i := 7) (oi := Oper.mk (some 108) (Op.move (Operand.tmp 107)) 4 "law.go:128" #[Edge.mk 6 Ground.data, Edge.mk 2 Ground.chain] none) (v := ?_) rfl (by kernel_rfl) (by kernel_rfl) (by kernel_rfl) (fun _ _ _ h => h) (Or.inl ⟨by rfl, ?_⟩) (by assumption) ?_
                  rotate_left 1
                  · (intro w hSw; (try dsimp only at hSw); go_simp; (try with_reducible rfl))
                  try simp only [Act.put, List.setIfInBounds_toArray, List.set_cons_zero, List.set_cons_succ]
                  refine wpAnyH_take (i := 8) (oi := Oper.mk (some 109) (Op.fieldAddr 63 (Operand.tmp 14) 1) 0 "law.go:128" #[Edge.mk 7 Ground.guard] (some (7, true))) (v := ?_) rfl (by kernel_rfl) (by kernel_rfl) (by kernel_rfl) (fun _ _ _ h => h) (Or.inl ⟨by rfl, ?_⟩) (by assumption) ?_
                  rotate_left 1
                  · (intro w hSw; (try dsimp only at hSw); go_simp; (try with_reducible rfl))
                  try simp only [Act.put, List.setIfInBounds_toArray, List.set_cons_zero, List.set_cons_succ]
                  refine wpAnyH_take (i := 9) (oi := Oper.mk (some 110) (Op.load 3 (Operand.tmp 109)) 3 "law.go:128" #[Edge.mk 8 Ground.data, Edge.mk 7 Ground.guard] (some (7, true))) (v := ?_) rfl (by kernel_rfl) (by kernel_rfl) (by kernel_rfl) (fun _ _ _ h => h) (Or.inl ⟨by rfl, ?_⟩) (by assumption) ?_
                  rotate_left 1
                  · (intro w hSw; (try dsimp only at hSw); go_simp; (try with_reducible rfl))
                  try simp only [Act.put, List.setIfInBounds_toArray, List.set_cons_zero, List.set_cons_succ]
                  refine wpAnyH_take (i := 10) (oi := Oper.mk (some 111) (Op.binOp BinOp.eql 3 (Operand.tmp 110) (Operand.const (Value.int IntKind.i64 5)) 3) 4 "law.go:128" #[Edge.mk 9 Ground.data, Edge.mk 7 Ground.guard] (some (7, true))) (v := ?_) rfl (by kernel_rfl) (by kernel_rfl) (by kernel_rfl) (fun _ _ _ h => h) (Or.inl ⟨by rfl, ?_⟩) (by assumption) ?_
                  rotate_left 1
                  · (intro w hSw; (try dsimp only at hSw); go_simp; (try with_reducible rfl))
                  try simp only [Act.put, List.setIfInBounds_toArray, List.set_cons_zero, List.set_cons_succ]
                  refine wpAnyH_take (i := 11) (oi := Oper.mk (some 112) (Op.pick (Operand.tmp 108) (Operand.tmp 111) (Operand.const (Value.bool false))) 4 "law.go:128" #[Edge.mk 7 Ground.data, Edge.mk 10 Ground.data] none) (v := ?_) rfl (by kernel_rfl) (by kernel_rfl) (by kernel_rfl) (fun _ _ _ h => h) (Or.inl ⟨by rfl, ?_⟩) (by assumption) ?_
                  rotate_left 1
                  · (intro w hSw; (try dsimp only at hSw); go_simp; (try with_reducible rfl))
                  try simp only [Act.put, List.setIfInBounds_toArray, List.set_cons_zero, List.set_cons_succ]
                  refine wpAnyH_take (i := 12) (oi := Oper.mk (some 113) (Op.move (Operand.tmp 112)) 4 "law.go:128" #[Edge.mk 11 Ground.data, Edge.mk 7 Ground.chain] none) (v := ?_) rfl (by kernel_rfl) (by kernel_rfl) (by kernel_rfl) (fun _ _ _ h => h) (Or.inl ⟨by rfl, ?_⟩) (by assumption) ?_
                  rotate_left 1
                  · (intro w hSw; (try dsimp only at hSw); go_simp; (try with_reducible rfl))
                  try simp only [Act.put, List.setIfInBounds_toArray, List.set_cons_zero, List.set_cons_succ]
                  refine wpAnyH_take (i := 13) (oi := Oper.mk (some 114) (Op.move (Operand.tmp 13)) 3 "law.go:128" #[Edge.mk 12 Ground.guard] (some (12, true))) (v := ?_) rfl (by kernel_rfl) (by kernel_rfl) (by kernel_rfl) (fun _ _ _ h => h) (Or.inl ⟨by rfl, ?_⟩) (by assumption) ?_
                  rotate_left 1
                  · (intro w hSw; (try dsimp only at hSw); go_simp; (try with_reducible rfl))
                  try simp only [Act.put, List.setIfInBounds_toArray, List.set_cons_zero, List.set_cons_succ]
                  refine wpAnyH_take (i := 14) (oi := Oper.mk (some 115) (Op.move (Operand.tmp 8)) 44 "law.go:128" #[Edge.mk 12 Ground.guard] (some (12, true))) (v := ?_) rfl (by kernel_rfl) (by kernel_rfl) (by kernel_rfl) (fun _ _ _ h => h) (Or.inl ⟨by rfl, ?_⟩) (by assumption) ?_
                  rotate_left 1
                  · (intro w hSw; (try dsimp only at hSw); go_simp; (try with_reducible rfl))
                  try simp only [Act.put, List.setIfInBounds_toArray, List.set_cons_zero, List.set_cons_succ]
                  refine wpAnyH_take (i := 15) (oi := Oper.mk (some 116) (Op.call (Call.mk (Callee.builtin Builtin.len) #[Operand.tmp 115] #[44])) 3 "law.go:128" #[Edge.mk 14 Ground.data, Edge.mk 12 Ground.guard] (some (12, true))) (v := ?_) rfl (by kernel_rfl) (by kernel_rfl) (by kernel_rfl) (fun _ _ _ h => h) (Or.inl ⟨by rfl, ?_⟩) (by assumption) ?_
                  rotate_left 1
                  · (intro w hSw; (try dsimp only at hSw); go_simp; (try with_reducible rfl))
                  try simp only [Act.put, List.setIfInBounds_toArray, List.set_cons_zero, List.set_cons_succ]
                  refine wpAnyH_take (i := 16) (oi := Oper.mk (some 117) (Op.binOp BinOp.lss 3 (Operand.tmp 114) (Operand.tmp 116) 3) 4 "law.go:128" #[Edge.mk 13 Ground.data, Edge.mk 15 Ground.data, Edge.mk 12 Ground.guard] (some (12, true))) (v := ?_) rfl (by kernel_rfl) (by kernel_rfl) (by kernel_rfl) (fun _ _ _ h => h) (Or.inl ⟨by rfl, ?_⟩) (by assumption) ?_
                  rotate_left 1
                  · (intro w hSw; (try dsimp only at hSw); go_simp; (try with_reducible rfl))
                  try simp only [Act.put, List.setIfInBounds_toArray, List.set_cons_zero, List.set_cons_succ]
                  refine wpAnyH_take (i := 17) (oi := Oper.mk (some 118) (Op.pick (Operand.tmp 113) (Operand.tmp 117) (Operand.const (Value.bool false))) 4 "law.go:128" #[Edge.mk 12 Ground.data, Edge.mk 16 Ground.data] none) (v := ?_) rfl (by kernel_rfl) (by kernel_rfl) (by kernel_rfl) (fun _ _ _ h => h) (Or.inl ⟨by rfl, ?_⟩) (by assumption) ?_
                  rotate_left 1
                  · (intro w hSw; (try dsimp only at hSw); go_simp; (try with_reducible rfl))
                  try simp only [Act.put, List.setIfInBounds_toArray, List.set_cons_zero, List.set_cons_succ]
                  refine wpAnyH_take (i := 18) (oi := Oper.mk (some 119) (Op.move (Operand.tmp 118)) 4 "law.go:128" #[Edge.mk 17 Ground.data, Edge.mk 12 Ground.chain] none) (v := ?_) rfl (by kernel_rfl) (by kernel_rfl) (by kernel_rfl) (fun _ _ _ h => h) (Or.inl ⟨by rfl, ?_⟩) (by assumption) ?_
                  rotate_left 1
                  · (intro w hSw; (try dsimp only at hSw); go_simp; (try with_reducible rfl))
                  try simp only [Act.put, List.setIfInBounds_toArray, List.set_cons_zero, List.set_cons_succ]
                  refine wpAnyH_take (i := 19) (oi := Oper.mk (some 120) (Op.move (Operand.tmp 8)) 44 "law.go:128" #[Edge.mk 18 Ground.guard] (some (18, true))) (v := undef) rfl (by kernel_rfl) (by kernel_rfl) (by kernel_rfl) (fun _ _ _ h => h) (Or.inr ⟨by rfl, rfl⟩) (by assumption) ?_
                  try simp only [Act.put, List.setIfInBounds_toArray, List.set_cons_zero, List.set_cons_succ]
                  refine wpAnyH_take (i := 20) (oi := Oper.mk (some 121) (Op.call (Call.mk (Callee.value (Operand.func 32)) #[Operand.tmp 120] #[44])) 3 "law.go:128" #[Edge.mk 19 Ground.data, Edge.mk 18 Ground.chain, Edge.mk 18 Ground.guard] (some (18, true))) (v := undef) rfl (by kernel_rfl) (by kernel_rfl) (by kernel_rfl) (fun _ _ _ h => h) (Or.inr ⟨by rfl, rfl⟩) (by assumption) ?_
                  try simp only [Act.put, List.setIfInBounds_toArray, List.set_cons_zero, List.set_cons_succ]
                  refine wpAnyH_take (i := 21) (oi := Oper.mk (some 122) (Op.binOp BinOp.geq 3 (Operand.tmp 121) (Operand.const (Value.int IntKind.i64 0)) 3) 4 "law.go:128" #[Edge.mk 20 Ground.data, Edge.mk 18 Ground.guard] (some (18, true))) (v := undef) rfl (by kernel_rfl) (by kernel_rfl) (by kernel_rfl) (fun _ _ _ h => h) (Or.inr ⟨by rfl, rfl⟩) (by assumption) ?_
                  try simp only [Act.put, List.setIfInBounds_toArray, List.set_cons_zero, List.set_cons_succ]
                  refine wpAnyH_take (i := 22) (oi := Oper.mk (some 123) (Op.pick (Operand.tmp 119) (Operand.tmp 122) (Operand.const (Value.bool false))) 4 "law.go:128" #[Edge.mk 18 Ground.data, Edge.mk 21 Ground.data] none) (v := ?_) rfl (by kernel_rfl) (by kernel_rfl) (by kernel_rfl) (fun _ _ _ h => h) (Or.inl ⟨by rfl, ?_⟩) (by assumption) ?_
                  rotate_left 1
                  · (intro w hSw; (try dsimp only at hSw); go_simp; (try with_reducible rfl))
                  try simp only [Act.put, List.setIfInBounds_toArray, List.set_cons_zero, List.set_cons_succ]
                  refine wpAnyH_take (i := 23) (oi := Oper.mk (some 124) (Op.move (Operand.tmp 123)) 4 "law.go:128" #[Edge.mk 22 Ground.data, Edge.mk 20 Ground.chain] none) (v := ?_) rfl (by kernel_rfl) (by kernel_rfl) (by kernel_rfl) (fun _ _ _ h => h) (Or.inl ⟨by rfl, ?_⟩) (by assumption) ?_
                  rotate_left 1
                  · (intro w hSw; (try dsimp only at hSw); go_simp; (try with_reducible rfl))
                  try simp only [Act.put, List.setIfInBounds_toArray, List.set_cons_zero, List.set_cons_succ]
                  refine wpAnyH_take (i := 24) (oi := Oper.mk (some 125) (Op.fieldAddr 63 (Operand.tmp 14) 0) 0 "law.go:128" #[Edge.mk 23 Ground.guard] (some (23, true))) (v := undef) rfl (by kernel_rfl) (by kernel_rfl) (by kernel_rfl) (fun _ _ _ h => h) (Or.inr ⟨by rfl, rfl⟩) (by assumption) ?_
                  try simp only [Act.put, List.setIfInBounds_toArray, List.set_cons_zero, List.set_cons_succ]
                  refine wpAnyH_take (i := 25) (oi := Oper.mk (some 126) (Op.load 9 (Operand.tmp 125)) 9 "law.go:128" #[Edge.mk 24 Ground.data, Edge.mk 23 Ground.guard] (some (23, true))) (v := undef) rfl (by kernel_rfl) (by kernel_rfl) (by kernel_rfl) (fun _ _ _ h => h) (Or.inr ⟨by rfl, rfl⟩) (by assumption) ?_
                  try simp only [Act.put, List.setIfInBounds_toArray, List.set_cons_zero, List.set_cons_succ]
                  refine wpAnyH_take (i := 26) (oi := Oper.mk (some 127) (Op.move (Operand.tmp 8)) 44 "law.go:128" #[Edge.mk 23 Ground.guard] (some (23, true))) (v := undef) rfl (by kernel_rfl) (by kernel_rfl) (by kernel_rfl) (fun _ _ _ h => h) (Or.inr ⟨by rfl, rfl⟩) (by assumption) ?_
                  try simp only [Act.put, List.setIfInBounds_toArray, List.set_cons_zero, List.set_cons_succ]
                  refine wpAnyH_take (i := 27) (oi := Oper.mk (some 128) (Op.move (Operand.tmp 8)) 44 "law.go:128" #[Edge.mk 23 Ground.guard] (some (23, true))) (v := undef) rfl (by kernel_rfl) (by kernel_rfl) (by kernel_rfl) (fun _ _ _ h => h) (Or.inr ⟨by rfl, rfl⟩) (by assumption) ?_
                  try simp only [Act.put, List.setIfInBounds_toArray, List.set_cons_zero, List.set_cons_succ]
                  refine wpAnyH_take (i := 28) (oi := Oper.mk (some 129) (Op.call (Call.mk (Callee.value (Operand.func 32)) #[Operand.tmp 128] #[44])) 3 "law.go:128" #[Edge.mk 27 Ground.data, Edge.mk 23 Ground.chain, Edge.mk 23 Ground.guard] (some (23, true))) (v := undef) rfl (by kernel_rfl) (by kernel_rfl) (by kernel_rfl) (fun _ _ _ h => h) (Or.inr ⟨by rfl, rfl⟩) (by assumption) ?_
                  try simp only [Act.put, List.setIfInBounds_toArray, List.set_cons_zero, List.set_cons_succ]
                  refine wpAnyH_take (i := 29) (oi := Oper.mk (some 130) (Op.indexAddr 44 (Operand.tmp 127) (Operand.tmp 129)) 0 "law.go:128" #[Edge.mk 26 Ground.data, Edge.mk 28 Ground.data, Edge.mk 23 Ground.guard] (some (23, true))) (v := undef) rfl (by kernel_rfl) (by kernel_rfl) (by kernel_rfl) (fun _ _ _ h => h) (Or.inr ⟨by rfl, rfl⟩) (by assumption) ?_
                  try simp only [Act.put, List.setIfInBounds_toArray, List.set_cons_zero, List.set_cons_succ]
                  refine wpAnyH_take (i := 30) (oi := Oper.mk (some 131) (Op.fieldAddr 63 (Operand.tmp 130) 0) 0 "law.go:128" #[Edge.mk 29 Ground.data, Edge.mk 23 Ground.guard] (some (23, true))) (v := undef) rfl (by kernel_rfl) (by kernel_rfl) (by kernel_rfl) (fun _ _ _ h => h) (Or.inr ⟨by rfl, rfl⟩) (by assumption) ?_
                  try simp only [Act.put, List.setIfInBounds_toArray, List.set_cons_zero, List.set_cons_succ]
                  refine wpAnyH_take (i := 31) (oi := Oper.mk (some 132) (Op.load 9 (Operand.tmp 131)) 9 "law.go:128" #[Edge.mk 30 Ground.data, Edge.mk 23 Ground.guard] (some (23, true))) (v := undef) rfl (by kernel_rfl) (by kernel_rfl) (by kernel_rfl) (fun _ _ _ h => h) (Or.inr ⟨by rfl, rfl⟩) (by assumption) ?_
                  try simp only [Act.put, List.setIfInBounds_toArray, List.set_cons_zero, List.set_cons_succ]
                  refine wpAnyH_take (i := 32) (oi := Oper.mk (some 133) (Op.binOp BinOp.eql 9 (Operand.tmp 126) (Operand.tmp 132) 9) 4 "law.go:128" #[Edge.mk 25 Ground.data, Edge.mk 31 Ground.data, Edge.mk 23 Ground.guard] (some (23, true))) (v := undef) rfl (by kernel_rfl) (by kernel_rfl) (by kernel_rfl) (fun _ _ _ h => h) (Or.inr ⟨by rfl, rfl⟩) (by assumption) ?_
                  try simp only [Act.put, List.setIfInBounds_toArray, List.set_cons_zero, List.set_cons_succ]
                  refine wpAnyH_take (i := 33) (oi := Oper.mk (some 134) (Op.pick (Operand.tmp 124) (Operand.tmp 133) (Operand.const (Value.bool false))) 4 "law.go:128" #[Edge.mk 23 Ground.data, Edge.mk 32 Ground.data] none) (v := ?_) rfl (by kernel_rfl) (by kernel_rfl) (by kernel_rfl) (fun _ _ _ h => h) (Or.inl ⟨by rfl, ?_⟩) (by assumption) ?_
                  rotate_left 1
                  · (intro w hSw; (try dsimp only at hSw); go_simp; (try with_reducible rfl))
                  try simp only [Act.put, List.setIfInBounds_toArray, List.set_cons_zero, List.set_cons_succ]
                  refine wpAnyH_done (by kernel_rfl) ?_ _
                  go_wp2_with fail
                  go_roundw
                  case rel => exact ⟨k + 1, by omega, by go_num, Lib.hid (HB03.out.trans (HB0.out.mono HB03.out.size))⟩
                  case measure => simp [intOf]; omega
              · have e5 : (z == 5) = false := by simpa using z5
                clear m2 s1 z5
                go_upto_region 21 with fail
                have SH : Hid (∀ W, Below W3.heap.size W3 W → W.cell? ⟨bp, 2, none⟩ = some (.int .i64 st) ∧ W.cell? ⟨gk, 0, none⟩ = some (.string s) ∧ W.cell? ⟨gk, 1, none⟩ = some (.int .i64 z)) := fun W hW => ⟨(KP3.out.below hW).cell 2 rfl, (K3.out.below hW).cell 0 rfl, (K3.out.below hW).cell 1 rfl⟩
                clear f0 f1 f2
                have HB0 := Lib.hid (show Below W3.heap.size W3 W3.drew from Below_drew (Below.refl _ _))
                obtain ⟨X0, hX0⟩ : ∃ X, X = W3.drew := ⟨_, rfl⟩
                refine wp_region_held_drew (S := (fun w' => w'.cell? ⟨bp, 2, none⟩ = some (.int .i64 st) ∧ w'.cell? ⟨gk, 0, none⟩ = some (.string s) ∧ w'.cell? ⟨gk, 1, none⟩ = some (.int .i64 z))) (by kernel_rfl) (SH.out _ HB0.out) (fun hH0 => ?_)
                rw [← hX0] at HB0 hH0 ⊢
                clear hX0
                refine wpAnyH_take (i := 0) (oi := Oper.mk (some 101) (Op.move (Operand.tmp 2)) 3 "law.go:128" #[] none) (v := ?_) rfl (by kernel_rfl) (by kernel_rfl) (by kernel_rfl) (fun _ _ _ h => h) (Or.inl ⟨by rfl, ?_⟩) (by assumption) ?_
                rotate_left 1
                · (intro w hSw; (try dsimp only at hSw); go_simp; (try with_reducible rfl))
                try simp only [Act.put, List.setIfInBounds_toArray, List.set_cons_zero, List.set_cons_succ]
                refine wpAnyH_take (i := 1) (oi := Oper.mk (some 102) (Op.binOp BinOp.eql 3 (Operand.tmp 101) (Operand.const (Value.int IntKind.i64 2)) 3) 4 "law.go:128" #[Edge.mk 0 Ground.data] none) (v := ?_) rfl (by kernel_rfl) (by kernel_rfl) (by kernel_rfl) (fun _ _ _ h => h) (Or.inl ⟨by rfl, ?_⟩) (by assumption) ?_
                rotate_left 1
                · (intro w hSw; (try dsimp only at hSw); go_simp; (try with_reducible rfl))
                try simp only [Act.put, List.setIfInBounds_toArray, List.set_cons_zero, List.set_cons_succ]
                refine wpAnyH_take (i := 2) (oi := Oper.mk (some 103) (Op.move (Operand.tmp 102)) 4 "law.go:128" #[Edge.mk 1 Ground.data] none) (v := ?_) rfl (by kernel_rfl) (by kernel_rfl) (by kernel_rfl) (fun _ _ _ h => h) (Or.inl ⟨by rfl, ?_⟩) (by assumption) ?_
                rotate_left 1
                · (intro w hSw; (try dsimp only at hSw); go_simp; (try with_reducible rfl))
                try simp only [Act.put, List.setIfInBounds_toArray, List.set_cons_zero, List.set_cons_succ]
                refine wpAnyH_take (i := 3) (oi := Oper.mk (some 104) (Op.fieldAddr 50 (Operand.tmp 9) 2) 0 "law.go:128" #[Edge.mk 2 Ground.guard] (some (2, true))) (v := ?_) rfl (by kernel_rfl) (by kernel_rfl) (by kernel_rfl) (fun _ _ _ h => h) (Or.inl ⟨by rfl, ?_⟩) (by assumption) ?_
                rotate_left 1
                · (intro w hSw; (try dsimp only at hSw); go_simp; (try with_reducible rfl))
                try simp only [Act.put, List.setIfInBounds_toArray, List.set_cons_zero, List.set_cons_succ]
                refine wpAnyH_take (i := 4) (oi := Oper.mk (some 105) (Op.load 3 (Operand.tmp 104)) 3 "law.go:128" #[Edge.mk 3 Ground.data, Edge.mk 2 Ground.guard] (some (2, true))) (v := ?_) rfl (by kernel_rfl) (by kernel_rfl) (by kernel_rfl) (fun _ _ _ h => h) (Or.inl ⟨by rfl, ?_⟩) (by assumption) ?_
                rotate_left 1
                · (intro w hSw; (try dsimp only at hSw); go_simp; (try with_reducible rfl))
                try simp only [Act.put, List.setIfInBounds_toArray, List.set_cons_zero, List.set_cons_succ]
                refine wpAnyH_take (i := 5) (oi := Oper.mk (some 106) (Op.binOp BinOp.eql 3 (Operand.tmp 105) (Operand.const (Value.int IntKind.i64 1)) 3) 4 "law.go:128" #[Edge.mk 4 Ground.data, Edge.mk 2 Ground.guard] (some (2, true))) (v := ?_) rfl (by kernel_rfl) (by kernel_rfl) (by kernel_rfl) (fun _ _ _ h => h) (Or.inl ⟨by rfl, ?_⟩) (by assumption) ?_
                rotate_left 1
                · (intro w hSw; (try dsimp only at hSw); go_simp; (try with_reducible rfl))
                try simp only [Act.put, List.setIfInBounds_toArray, List.set_cons_zero, List.set_cons_succ]
                refine wpAnyH_take (i := 6) (oi := Oper.mk (some 107) (Op.pick (Operand.tmp 103) (Operand.tmp 106) (Operand.const (Value.bool false))) 4 "law.go:128" #[Edge.mk 2 Ground.data, Edge.mk 5 Ground.data] none) (v := ?_) rfl (by kernel_rfl) (by kernel_rfl) (by kernel_rfl) (fun _ _ _ h => h) (Or.inl ⟨by rfl, ?_⟩) (by assumption) ?_
                rotate_left 1
                · (intro w hSw; (try dsimp only at hSw); go_simp; (try with_reducible rfl))
                try simp only [Act.put, List.setIfInBounds_toArray, List.set_cons_zero, List.set_cons_succ]
                refine wpAnyH_take (i := 7) (oi := Oper.mk (some 108) (Op.move (Operand.tmp 107)) 4 "law.go:128" #[Edge.mk 6 Ground.data, Edge.mk 2 Ground.chain] none) (v := ?_) rfl (by kernel_rfl) (by kernel_rfl) (by kernel_rfl) (fun _ _ _ h => h) (Or.inl ⟨by rfl, ?_⟩) (by assumption) ?_
                rotate_left 1
                · (intro w hSw; (try dsimp only at hSw); go_simp; (try with_reducible rfl))
                try simp only [Act.put, List.setIfInBounds_toArray, List.set_cons_zero, List.set_cons_succ]
                refine wpAnyH_take (i := 8) (oi := Oper.mk (some 109) (Op.fieldAddr 63 (Operand.tmp 14) 1) 0 "law.go:128" #[Edge.mk 7 Ground.guard] (some (7, true))) (v := ?_) rfl (by kernel_rfl) (by kernel_rfl) (by kernel_rfl) (fun _ _ _ h => h) (Or.inl ⟨by rfl, ?_⟩) (by assumption) ?_
                rotate_left 1
                · (intro w hSw; (try dsimp only at hSw); go_simp; (try with_reducible rfl))
                try simp only [Act.put, List.setIfInBounds_toArray, List.set_cons_zero, List.set_cons_succ]
                refine wpAnyH_take (i := 9) (oi := Oper.mk (some 110) (Op.load 3 (Operand.tmp 109)) 3 "law.go:128" #[Edge.mk 8 Ground.data, Edge.mk 7 Ground.guard] (some (7, true))) (v := ?_) rfl (by kernel_rfl) (by kernel_rfl) (by kernel_rfl) (fun _ _ _ h => h) (Or.inl ⟨by rfl, ?_⟩) (by assumption) ?_
                rotate_left 1
                · (intro w hSw; (try dsimp only at hSw); go_simp; (try with_reducible rfl))
                try simp only [Act.put, List.setIfInBounds_toArray, List.set_cons_zero, List.set_cons_succ]
                refine wpAnyH_take (i := 10) (oi := Oper.mk (some 111) (Op.binOp BinOp.eql 3 (Operand.tmp 110) (Operand.const (Value.int IntKind.i64 5)) 3) 4 "law.go:128" #[Edge.mk 9 Ground.data, Edge.mk 7 Ground.guard] (some (7, true))) (v := ?_) rfl (by kernel_rfl) (by kernel_rfl) (by kernel_rfl) (fun _ _ _ h => h) (Or.inl ⟨by rfl, ?_⟩) (by assumption) ?_
                rotate_left 1
                · (intro w hSw; (try dsimp only at hSw); go_simp; (try with_reducible rfl))
                try simp only [Act.put, List.setIfInBounds_toArray, List.set_cons_zero, List.set_cons_succ]
                refine wpAnyH_take (i := 11) (oi := Oper.mk (some 112) (Op.pick (Operand.tmp 108) (Operand.tmp 111) (Operand.const (Value.bool false))) 4 "law.go:128" #[Edge.mk 7 Ground.data, Edge.mk 10 Ground.data] none) (v := ?_) rfl (by kernel_rfl) (by kernel_rfl) (by kernel_rfl) (fun _ _ _ h => h) (Or.inl ⟨by rfl, ?_⟩) (by assumption) ?_
                rotate_left 1
                · (intro w hSw; (try dsimp only at hSw); go_simp; (try with_reducible rfl))
                try simp only [Act.put, List.setIfInBounds_toArray, List.set_cons_zero, List.set_cons_succ]
                refine wpAnyH_take (i := 12) (oi := Oper.mk (some 113) (Op.move (Operand.tmp 112)) 4 "law.go:128" #[Edge.mk 11 Ground.data, Edge.mk 7 Ground.chain] none) (v := ?_) rfl (by kernel_rfl) (by kernel_rfl) (by kernel_rfl) (fun _ _ _ h => h) (Or.inl ⟨by rfl, ?_⟩) (by assumption) ?_
                rotate_left 1
                · (intro w hSw; (try dsimp only at hSw); go_simp; (try with_reducible rfl))
                try simp only [Act.put, List.setIfInBounds_toArray, List.set_cons_zero, List.set_cons_succ]
                refine wpAnyH_take (i := 13) (oi := Oper.mk (some 114) (Op.move (Operand.tmp 13)) 3 "law.go:128" #[Edge.mk 12 Ground.guard] (some (12, true))) (v := undef) rfl (by kernel_rfl) (by kernel_rfl) (by kernel_rfl) (fun _ _ _ h => h) (Or.inr ⟨by rfl, rfl⟩) (by assumption) ?_
                try simp only [Act.put, List.setIfInBounds_toArray, List.set_cons_zero, List.set_cons_succ]
                refine wpAnyH_take (i := 14) (oi := Oper.mk (some 115) (Op.move (Operand.tmp 8)) 44 "law.go:128" #[Edge.mk 12 Ground.guard] (some (12, true))) (v := undef) rfl (by kernel_rfl) (by kernel_rfl) (by kernel_rfl) (fun _ _ _ h => h) (Or.inr ⟨by rfl, rfl⟩) (by assumption) ?_
                try simp only [Act.put, List.setIfInBounds_toArray, List.set_cons_zero, List.set_cons_succ]
                refine wpAnyH_take (i := 15) (oi := Oper.mk (some 116) (Op.call (Call.mk (Callee.builtin Builtin.len) #[Operand.tmp 115] #[44])) 3 "law.go:128" #[Edge.mk 14 Ground.data, Edge.mk 12 Ground.guard] (some (12, true))) (v := undef) rfl (by kernel_rfl) (by kernel_rfl) (by kernel_rfl) (fun _ _ _ h => h) (Or.inr ⟨by rfl, rfl⟩) (by assumption) ?_
                try simp only [Act.put, List.setIfInBounds_toArray, List.set_cons_zero, List.set_cons_succ]
                refine wpAnyH_take (i := 16) (oi := Oper.mk (some 117) (Op.binOp BinOp.lss 3 (Operand.tmp 114) (Operand.tmp 116) 3) 4 "law.go:128" #[Edge.mk 13 Ground.data, Edge.mk 15 Ground.data, Edge.mk 12 Ground.guard] (some (12, true))) (v := undef) rfl (by kernel_rfl) (by kernel_rfl) (by kernel_rfl) (fun _ _ _ h => h) (Or.inr ⟨by rfl, rfl⟩) (by assumption) ?_
                try simp only [Act.put, List.setIfInBounds_toArray, List.set_cons_zero, List.set_cons_succ]
                refine wpAnyH_take (i := 17) (oi := Oper.mk (some 118) (Op.pick (Operand.tmp 113) (Operand.tmp 117) (Operand.const (Value.bool false))) 4 "law.go:128" #[Edge.mk 12 Ground.data, Edge.mk 16 Ground.data] none) (v := ?_) rfl (by kernel_rfl) (by kernel_rfl) (by kernel_rfl) (fun _ _ _ h => h) (Or.inl ⟨by rfl, ?_⟩) (by assumption) ?_
                rotate_left 1
                · (intro w hSw; (try dsimp only at hSw); go_simp; (try with_reducible rfl))
                try simp only [Act.put, List.setIfInBounds_toArray, List.set_cons_zero, List.set_cons_succ]
                refine wpAnyH_take (i := 18) (oi := Oper.mk (some 119) (Op.move (Operand.tmp 118)) 4 "law.go:128" #[Edge.mk 17 Ground.data, Edge.mk 12 Ground.chain] none) (v := ?_) rfl (by kernel_rfl) (by kernel_rfl) (by kernel_rfl) (fun _ _ _ h => h) (Or.inl ⟨by rfl, ?_⟩) (by assumption) ?_
                rotate_left 1
                · (intro w hSw; (try dsimp only at hSw); go_simp; (try with_reducible rfl))
                try simp only [Act.put, List.setIfInBounds_toArray, List.set_cons_zero, List.set_cons_succ]
                refine wpAnyH_take (i := 19) (oi := Oper.mk (some 120) (Op.move (Operand.tmp 8)) 44 "law.go:128" #[Edge.mk 18 Ground.guard] (some (18, true))) (v := undef) rfl (by kernel_rfl) (by kernel_rfl) (by kernel_rfl) (fun _ _ _ h => h) (Or.inr ⟨by rfl, rfl⟩) (by assumption) ?_
                try simp only [Act.put, List.setIfInBounds_toArray, List.set_cons_zero, List.set_cons_succ]
                refine wpAnyH_take (i := 20) (oi := Oper.mk (some 121) (Op.call (Call.mk (Callee.value (Operand.func 32)) #[Operand.tmp 120] #[44])) 3 "law.go:128" #[Edge.mk 19 Ground.data, Edge.mk 18 Ground.chain, Edge.mk 18 Ground.guard] (some (18, true))) (v := undef) rfl (by kernel_rfl) (by kernel_rfl) (by kernel_rfl) (fun _ _ _ h => h) (Or.inr ⟨by rfl, rfl⟩) (by assumption) ?_
                try simp only [Act.put, List.setIfInBounds_toArray, List.set_cons_zero, List.set_cons_succ]
                refine wpAnyH_take (i := 21) (oi := Oper.mk (some 122) (Op.binOp BinOp.geq 3 (Operand.tmp 121) (Operand.const (Value.int IntKind.i64 0)) 3) 4 "law.go:128" #[Edge.mk 20 Ground.data, Edge.mk 18 Ground.guard] (some (18, true))) (v := undef) rfl (by kernel_rfl) (by kernel_rfl) (by kernel_rfl) (fun _ _ _ h => h) (Or.inr ⟨by rfl, rfl⟩) (by assumption) ?_
                try simp only [Act.put, List.setIfInBounds_toArray, List.set_cons_zero, List.set_cons_succ]
                refine wpAnyH_take (i := 22) (oi := Oper.mk (some 123) (Op.pick (Operand.tmp 119) (Operand.tmp 122) (Operand.const (Value.bool false))) 4 "law.go:128" #[Edge.mk 18 Ground.data, Edge.mk 21 Ground.data] none) (v := ?_) rfl (by kernel_rfl) (by kernel_rfl) (by kernel_rfl) (fun _ _ _ h => h) (Or.inl ⟨by rfl, ?_⟩) (by assumption) ?_
                rotate_left 1
                · (intro w hSw; (try dsimp only at hSw); go_simp; (try with_reducible rfl))
                try simp only [Act.put, List.setIfInBounds_toArray, List.set_cons_zero, List.set_cons_succ]
                refine wpAnyH_take (i := 23) (oi := Oper.mk (some 124) (Op.move (Operand.tmp 123)) 4 "law.go:128" #[Edge.mk 22 Ground.data, Edge.mk 20 Ground.chain] none) (v := ?_) rfl (by kernel_rfl) (by kernel_rfl) (by kernel_rfl) (fun _ _ _ h => h) (Or.inl ⟨by rfl, ?_⟩) (by assumption) ?_
                rotate_left 1
                · (intro w hSw; (try dsimp only at hSw); go_simp; (try with_reducible rfl))
                try simp only [Act.put, List.setIfInBounds_toArray, List.set_cons_zero, List.set_cons_succ]
                refine wpAnyH_take (i := 24) (oi := Oper.mk (some 125) (Op.fieldAddr 63 (Operand.tmp 14) 0) 0 "law.go:128" #[Edge.mk 23 Ground.guard] (some (23, true))) (v := undef) rfl (by kernel_rfl) (by kernel_rfl) (by kernel_rfl) (fun _ _ _ h => h) (Or.inr ⟨by rfl, rfl⟩) (by assumption) ?_
                try simp only [Act.put, List.setIfInBounds_toArray, List.set_cons_zero, List.set_cons_succ]
                refine wpAnyH_take (i := 25) (oi := Oper.mk (some 126) (Op.load 9 (Operand.tmp 125)) 9 "law.go:128" #[Edge.mk 24 Ground.data, Edge.mk 23 Ground.guard] (some (23, true))) (v := undef) rfl (by kernel_rfl) (by kernel_rfl) (by kernel_rfl) (fun _ _ _ h => h) (Or.inr ⟨by rfl, rfl⟩) (by assumption) ?_
                try simp only [Act.put, List.setIfInBounds_toArray, List.set_cons_zero, List.set_cons_succ]
                refine wpAnyH_take (i := 26) (oi := Oper.mk (some 127) (Op.move (Operand.tmp 8)) 44 "law.go:128" #[Edge.mk 23 Ground.guard] (some (23, true))) (v := undef) rfl (by kernel_rfl) (by kernel_rfl) (by kernel_rfl) (fun _ _ _ h => h) (Or.inr ⟨by rfl, rfl⟩) (by assumption) ?_
                try simp only [Act.put, List.setIfInBounds_toArray, List.set_cons_zero, List.set_cons_succ]
                refine wpAnyH_take (i := 27) (oi := Oper.mk (some 128) (Op.move (Operand.tmp 8)) 44 "law.go:128" #[Edge.mk 23 Ground.guard] (some (23, true))) (v := undef) rfl (by kernel_rfl) (by kernel_rfl) (by kernel_rfl) (fun _ _ _ h => h) (Or.inr ⟨by rfl, rfl⟩) (by assumption) ?_
                try simp only [Act.put, List.setIfInBounds_toArray, List.set_cons_zero, List.set_cons_succ]
                refine wpAnyH_take (i := 28) (oi := Oper.mk (some 129) (Op.call (Call.mk (Callee.value (Operand.func 32)) #[Operand.tmp 128] #[44])) 3 "law.go:128" #[Edge.mk 27 Ground.data, Edge.mk 23 Ground.chain, Edge.mk 23 Ground.guard] (some (23, true))) (v := undef) rfl (by kernel_rfl) (by kernel_rfl) (by kernel_rfl) (fun _ _ _ h => h) (Or.inr ⟨by rfl, rfl⟩) (by assumption) ?_
                try simp only [Act.put, List.setIfInBounds_toArray, List.set_cons_zero, List.set_cons_succ]
                refine wpAnyH_take (i := 29) (oi := Oper.mk (some 130) (Op.indexAddr 44 (Operand.tmp 127) (Operand.tmp 129)) 0 "law.go:128" #[Edge.mk 26 Ground.data, Edge.mk 28 Ground.data, Edge.mk 23 Ground.guard] (some (23, true))) (v := undef) rfl (by kernel_rfl) (by kernel_rfl) (by kernel_rfl) (fun _ _ _ h => h) (Or.inr ⟨by rfl, rfl⟩) (by assumption) ?_
                try simp only [Act.put, List.setIfInBounds_toArray, List.set_cons_zero, List.set_cons_succ]
                refine wpAnyH_take (i := 30) (oi := Oper.mk (some 131) (Op.fieldAddr 63 (Operand.tmp 130) 0) 0 "law.go:128" #[Edge.mk 29 Ground.data, Edge.mk 23 Ground.guard] (some (23, true))) (v := undef) rfl (by kernel_rfl) (by kernel_rfl) (by kernel_rfl) (fun _ _ _ h => h) (Or.inr ⟨by rfl, rfl⟩) (by assumption) ?_
                try simp only [Act.put, List.setIfInBounds_toArray, List.set_cons_zero, List.set_cons_succ]
                refine wpAnyH_take (i := 31) (oi := Oper.mk (some 132) (Op.load 9 (Operand.tmp 131)) 9 "law.go:128" #[Edge.mk 30 Ground.data, Edge.mk 23 Ground.guard] (some (23, true))) (v := undef) rfl (by kernel_rfl) (by kernel_rfl) (by kernel_rfl) (fun _ _ _ h => h) (Or.inr ⟨by rfl, rfl⟩) (by assumption) ?_
                try simp only [Act.put, List.setIfInBounds_toArray, List.set_cons_zero, List.set_cons_succ]
                refine wpAnyH_take (i := 32) (oi := Oper.mk (some 133) (Op.binOp BinOp.eql 9 (Operand.tmp 126) (Operand.tmp 132) 9) 4 "law.go:128" #[Edge.mk 25 Ground.data, Edge.mk 31 Ground.data, Edge.mk 23 Ground.guard] (some (23, true))) (v := undef) rfl (by kernel_rfl) (by kernel_rfl) (by kernel_rfl) (fun _ _ _ h => h) (Or.inr ⟨by rfl, rfl⟩) (by assumption) ?_
                try simp only [Act.put, List.setIfInBounds_toArray, List.set_cons_zero, List.set_cons_succ]
                refine wpAnyH_take (i := 33) (oi := Oper.mk (some 134) (Op.pick (Operand.tmp 124) (Operand.tmp 133) (Operand.const (Value.bool false))) 4 "law.go:128" #[Edge.mk 23 Ground.data, Edge.mk 32 Ground.data] none) (v := ?_) rfl (by kernel_rfl) (by kernel_rfl) (by kernel_rfl) (fun _ _ _ h => h) (Or.inl ⟨by rfl, ?_⟩) (by assumption) ?_
                rotate_left 1
                · (intro w hSw; (try dsimp only at hSw); go_simp; (try with_reducible rfl))
                try simp only [Act.put, List.setIfInBounds_toArray, List.set_cons_zero, List.set_cons_succ]
                refine wpAnyH_done (by kernel_rfl) ?_ _
                go_wp2_with fail
                go_roundw
                case rel => exact ⟨k + 1, by omega, by go_num, Lib.hid (HB03.out.trans (HB0.out.mono HB03.out.size))⟩
                case measure => simp [intOf]; omega
            · have e3 : (st == 1) = false := by simpa using s1
              clear m2 s1
              go_upto_region 21 with fail
              have SH : Hid (∀ W, Below W3.heap.size W3 W → W.cell? ⟨bp, 2, none⟩ = some (.int .i64 st) ∧ W.cell? ⟨gk, 0, none⟩ = some (.string s) ∧ W.cell? ⟨gk, 1, none⟩ = some (.int .i64 z)) := fun W hW => ⟨(KP3.out.below hW).cell 2 rfl, (K3.out.below hW).cell 0 rfl, (K3.out.below hW).cell 1 rfl⟩
              clear f0 f1 f2
              have HB0 := Lib.hid (show Below W3.heap.size W3 W3.drew from Below_drew (Below.refl _ _))
              obtain ⟨X0, hX0⟩ : ∃ X, X = W3.drew := ⟨_, rfl⟩
              refine wp_region_held_drew (S := (fun w' => w'.cell? ⟨bp, 2, none⟩ = some (.int .i64 st) ∧ w'.cell? ⟨gk, 0, none⟩ = some (.string s) ∧ w'.cell? ⟨gk, 1, none⟩ = some (.int .i64 z))) (by kernel_rfl) (SH.out _ HB0.out) (fun hH0 => ?_)
              rw [← hX0] at HB0 hH0 ⊢
              clear hX0
              refine wpAnyH_take (i := 0) (oi := Oper.mk (some 101) (Op.move (Operand.tmp 2)) 3 "law.go:128" #[] none) (v := ?_) rfl (by kernel_rfl) (by kernel_rfl) (by kernel_rfl) (fun _ _ _ h => h) (Or.inl ⟨by rfl, ?_⟩) (by assumption) ?_
              rotate_left 1
              · (intro w hSw; (try dsimp only at hSw); go_simp; (try with_reducible rfl))
              try simp only [Act.put, List.setIfInBounds_toArray, List.set_cons_zero, List.set_cons_succ]
              refine wpAnyH_take (i := 1) (oi := Oper.mk (some 102) (Op.binOp BinOp.eql 3 (Operand.tmp 101) (Operand.const (Value.int IntKind.i64 2)) 3) 4 "law.go:128" #[Edge.mk 0 Ground.data] none) (v := ?_) rfl (by kernel_rfl) (by kernel_rfl) (by kernel_rfl) (fun _ _ _ h => h) (Or.inl ⟨by rfl, ?_⟩) (by assumption) ?_
              rotate_left 1
              · (intro w hSw; (try dsimp only at hSw); go_simp; (try with_reducible rfl))
              try simp only [Act.put, List.setIfInBounds_toArray, List.set_cons_zero, List.set_cons_succ]
              refine wpAnyH_take (i := 2) (oi := Oper.mk (some 103) (Op.move (Operand.tmp 102)) 4 "law.go:128" #[Edge.mk 1 Ground.data] none) (v := ?_) rfl (by kernel_rfl) (by kernel_rfl) (by kernel_rfl) (fun _ _ _ h => h) (Or.inl ⟨by rfl, ?_⟩) (by assumption) ?_
              rotate_left 1
              · (intro w hSw; (try dsimp only at hSw); go_simp; (try with_reducible rfl))
              try simp only [Act.put, List.setIfInBounds_toArray, List.set_cons_zero, List.set_cons_succ]
              refine wpAnyH_take (i := 3) (oi := Oper.mk (some 104) (Op.fieldAddr 50 (Operand.tmp 9) 2) 0 "law.go:128" #[Edge.mk 2 Ground.guard] (some (2, true))) (v := ?_) rfl (by kernel_rfl) (by kernel_rfl) (by kernel_rfl) (fun _ _ _ h => h) (Or.inl ⟨by rfl, ?_⟩) (by assumption) ?_
              rotate_left 1
              · (intro w hSw; (try dsimp only at hSw); go_simp; (try with_reducible rfl))
              try simp only [Act.put, List.setIfInBounds_toArray, List.set_cons_zero, List.set_cons_succ]
              refine wpAnyH_take (i := 4) (oi := Oper.mk (some 105) (Op.load 3 (Operand.tmp 104)) 3 "law.go:128" #[Edge.mk 3 Ground.data, Edge.mk 2 Ground.guard] (some (2, true))) (v := ?_) rfl (by kernel_rfl) (by kernel_rfl) (by kernel_rfl) (fun _ _ _ h => h) (Or.inl ⟨by rfl, ?_⟩) (by assumption) ?_
              rotate_left 1
              · (intro w hSw; (try dsimp only at hSw); go_simp; (try with_reducible rfl))
              try simp only [Act.put, List.setIfInBounds_toArray, List.set_cons_zero, List.set_cons_succ]
              refine wpAnyH_take (i := 5) (oi := Oper.mk (some 106) (Op.binOp BinOp.eql 3 (Operand.tmp 105) (Operand.const (Value.int IntKind.i64 1)) 3) 4 "law.go:128" #[Edge.mk 4 Ground.data, Edge.mk 2 Ground.guard] (some (2, true))) (v := ?_) rfl (by kernel_rfl) (by kernel_rfl) (by kernel_rfl) (fun _ _ _ h => h) (Or.inl ⟨by rfl, ?_⟩) (by assumption) ?_
              rotate_left 1
              · (intro w hSw; (try dsimp only at hSw); go_simp; (try with_reducible rfl))
              try simp only [Act.put, List.setIfInBounds_toArray, List.set_cons_zero, List.set_cons_succ]
              refine wpAnyH_take (i := 6) (oi := Oper.mk (some 107) (Op.pick (Operand.tmp 103) (Operand.tmp 106) (Operand.const (Value.bool false))) 4 "law.go:128" #[Edge.mk 2 Ground.data, Edge.mk 5 Ground.data] none) (v := ?_) rfl (by kernel_rfl) (by kernel_rfl) (by kernel_rfl) (fun _ _ _ h => h) (Or.inl ⟨by rfl, ?_⟩) (by assumption) ?_
              rotate_left 1
              · (intro w hSw; (try dsimp only at hSw); go_simp; (try with_reducible rfl))
              try simp only [Act.put, List.setIfInBounds_toArray, List.set_cons_zero, List.set_cons_succ]
              refine wpAnyH_take (i := 7) (oi := Oper.mk (some 108) (Op.move (Operand.tmp 107)) 4 "law.go:128" #[Edge.mk 6 Ground.data, Edge.mk 2 Ground.chain] none) (v := ?_) rfl (by kernel_rfl) (by kernel_rfl) (by kernel_rfl) (fun _ _ _ h => h) (Or.inl ⟨by rfl, ?_⟩) (by assumption) ?_
              rotate_left 1
              · (intro w hSw; (try dsimp only at hSw); go_simp; (try with_reducible rfl))
              try simp only [Act.put, List.setIfInBounds_toArray, List.set_cons_zero, List.set_cons_succ]
              refine wpAnyH_take (i := 8) (oi := Oper.mk (some 109) (Op.fieldAddr 63 (Operand.tmp 14) 1) 0 "law.go:128" #[Edge.mk 7 Ground.guard] (some (7, true))) (v := undef) rfl (by kernel_rfl) (by kernel_rfl) (by kernel_rfl) (fun _ _ _ h => h) (Or.inr ⟨by rfl, rfl⟩) (by assumption) ?_
              try simp only [Act.put, List.setIfInBounds_toArray, List.set_cons_zero, List.set_cons_succ]
              refine wpAnyH_take (i := 9) (oi := Oper.mk (some 110) (Op.load 3 (Operand.tmp 109)) 3 "law.go:128" #[Edge.mk 8 Ground.data, Edge.mk 7 Ground.guard] (some (7, true))) (v := undef) rfl (by kernel_rfl) (by kernel_rfl) (by kernel_rfl) (fun _ _ _ h => h) (Or.inr ⟨by rfl, rfl⟩) (by assumption) ?_
              try simp only [Act.put, List.setIfInBounds_toArray, List.set_cons_zero, List.set_cons_succ]
              refine wpAnyH_take (i := 10) (oi := Oper.mk (some 111) (Op.binOp BinOp.eql 3 (Operand.tmp 110) (Operand.const (Value.int IntKind.i64 5)) 3) 4 "law.go:128" #[Edge.mk 9 Ground.data, Edge.mk 7 Ground.guard] (some (7, true))) (v := undef) rfl (by kernel_rfl) (by kernel_rfl) (by kernel_rfl) (fun _ _ _ h => h) (Or.inr ⟨by rfl, rfl⟩) (by assumption) ?_
              try simp only [Act.put, List.setIfInBounds_toArray, List.set_cons_zero, List.set_cons_succ]
              refine wpAnyH_take (i := 11) (oi := Oper.mk (some 112) (Op.pick (Operand.tmp 108) (Operand.tmp 111) (Operand.const (Value.bool false))) 4 "law.go:128" #[Edge.mk 7 Ground.data, Edge.mk 10 Ground.data] none) (v := ?_) rfl (by kernel_rfl) (by kernel_rfl) (by kernel_rfl) (fun _ _ _ h => h) (Or.inl ⟨by rfl, ?_⟩) (by assumption) ?_
              rotate_left 1
              · (intro w hSw; (try dsimp only at hSw); go_simp; (try with_reducible rfl))
              try simp only [Act.put, List.setIfInBounds_toArray, List.set_cons_zero, List.set_cons_succ]
              refine wpAnyH_take (i := 12) (oi := Oper.mk (some 113) (Op.move (Operand.tmp 112)) 4 "law.go:128" #[Edge.mk 11 Ground.data, Edge.mk 7 Ground.chain] none) (v := ?_) rfl (by kernel_rfl) (by kernel_rfl) (by kernel_rfl) (fun _ _ _ h => h) (Or.inl ⟨by rfl, ?_⟩) (by assumption) ?_
              rotate_left 1
              · (intro w hSw; (try dsimp only at hSw); go_simp; (try with_reducible rfl))
              try simp only [Act.put, List.setIfInBounds_toArray, List.set_cons_zero, List.set_cons_succ]
              refine wpAnyH_take (i := 13) (oi := Oper.mk (some 114) (Op.move (Operand.tmp 13)) 3 "law.go:128" #[Edge.mk 12 Ground.guard] (some (12, true))) (v := undef) rfl (by kernel_rfl) (by kernel_rfl) (by kernel_rfl) (fun _ _ _ h => h) (Or.inr ⟨by rfl, rfl⟩) (by assumption) ?_
              try simp only [Act.put, List.setIfInBounds_toArray, List.set_cons_zero, List.set_cons_succ]
              refine wpAnyH_take (i := 14) (oi := Oper.mk (some 115) (Op.move (Operand.tmp 8)) 44 "law.go:128" #[Edge.mk 12 Ground.guard] (some (12, true))) (v := undef) rfl (by kernel_rfl) (by kernel_rfl) (by kernel_rfl) (fun _ _ _ h => h) (Or.inr ⟨by rfl, rfl⟩) (by assumption) ?_
              try simp only [Act.put, List.setIfInBounds_toArray, List.set_cons_zero, List.set_cons_succ]
              refine wpAnyH_take (i := 15) (oi := Oper.mk (some 116) (Op.call (Call.mk (Callee.builtin Builtin.len) #[Operand.tmp 115] #[44])) 3 "law.go:128" #[Edge.mk 14 Ground.data, Edge.mk 12 Ground.guard] (some (12, true))) (v := undef) rfl (by kernel_rfl) (by kernel_rfl) (by kernel_rfl) (fun _ _ _ h => h) (Or.inr ⟨by rfl, rfl⟩) (by assumption) ?_
              try simp only [Act.put, List.setIfInBounds_toArray, List.set_cons_zero, List.set_cons_succ]
              refine wpAnyH_take (i := 16) (oi := Oper.mk (some 117) (Op.binOp BinOp.lss 3 (Operand.tmp 114) (Operand.tmp 116) 3) 4 "law.go:128" #[Edge.mk 13 Ground.data, Edge.mk 15 Ground.data, Edge.mk 12 Ground.guard] (some (12, true))) (v := undef) rfl (by kernel_rfl) (by kernel_rfl) (by kernel_rfl) (fun _ _ _ h => h) (Or.inr ⟨by rfl, rfl⟩) (by assumption) ?_
              try simp only [Act.put, List.setIfInBounds_toArray, List.set_cons_zero, List.set_cons_succ]
              refine wpAnyH_take (i := 17) (oi := Oper.mk (some 118) (Op.pick (Operand.tmp 113) (Operand.tmp 117) (Operand.const (Value.bool false))) 4 "law.go:128" #[Edge.mk 12 Ground.data, Edge.mk 16 Ground.data] none) (v := ?_) rfl (by kernel_rfl) (by kernel_rfl) (by kernel_rfl) (fun _ _ _ h => h) (Or.inl ⟨by rfl, ?_⟩) (by assumption) ?_
              rotate_left 1
              · (intro w hSw; (try dsimp only at hSw); go_simp; (try with_reducible rfl))
              try simp only [Act.put, List.setIfInBounds_toArray, List.set_cons_zero, List.set_cons_succ]
              refine wpAnyH_take (i := 18) (oi := Oper.mk (some 119) (Op.move (Operand.tmp 118)) 4 "law.go:128" #[Edge.mk 17 Ground.data, Edge.mk 12 Ground.chain] none) (v := ?_) rfl (by kernel_rfl) (by kernel_rfl) (by kernel_rfl) (fun _ _ _ h => h) (Or.inl ⟨by rfl, ?_⟩) (by assumption) ?_
              rotate_left 1
              · (intro w hSw; (try dsimp only at hSw); go_simp; (try with_reducible rfl))
              try simp only [Act.put, List.setIfInBounds_toArray, List.set_cons_zero, List.set_cons_succ]
              refine wpAnyH_take (i := 19) (oi := Oper.mk (some 120) (Op.move (Operand.tmp 8)) 44 "law.go:128" #[Edge.mk 18 Ground.guard] (some (18, true))) (v := undef) rfl (by kernel_rfl) (by kernel_rfl) (by kernel_rfl) (fun _ _ _ h => h) (Or.inr ⟨by rfl, rfl⟩) (by assumption) ?_
              try simp only [Act.put, List.setIfInBounds_toArray, List.set_cons_zero, List.set_cons_succ]
              refine wpAnyH_take (i := 20) (oi := Oper.mk (some 121) (Op.call (Call.mk (Callee.value (Operand.func 32)) #[Operand.tmp 120] #[44])) 3 "law.go:128" #[Edge.mk 19 Ground.data, Edge.mk 18 Ground.chain, Edge.mk 18 Ground.guard] (some (18, true))) (v := undef) rfl (by kernel_rfl) (by kernel_rfl) (by kernel_rfl) (fun _ _ _ h => h) (Or.inr ⟨by rfl, rfl⟩) (by assumption) ?_
              try simp only [Act.put, List.setIfInBounds_toArray, List.set_cons_zero, List.set_cons_succ]
              refine wpAnyH_take (i := 21) (oi := Oper.mk (some 122) (Op.binOp BinOp.geq 3 (Operand.tmp 121) (Operand.const (Value.int IntKind.i64 0)) 3) 4 "law.go:128" #[Edge.mk 20 Ground.data, Edge.mk 18 Ground.guard] (some (18, true))) (v := undef) rfl (by kernel_rfl) (by kernel_rfl) (by kernel_rfl) (fun _ _ _ h => h) (Or.inr ⟨by rfl, rfl⟩) (by assumption) ?_
              try simp only [Act.put, List.setIfInBounds_toArray, List.set_cons_zero, List.set_cons_succ]
              refine wpAnyH_take (i := 22) (oi := Oper.mk (some 123) (Op.pick (Operand.tmp 119) (Operand.tmp 122) (Operand.const (Value.bool false))) 4 "law.go:128" #[Edge.mk 18 Ground.data, Edge.mk 21 Ground.data] none) (v := ?_) rfl (by kernel_rfl) (by kernel_rfl) (by kernel_rfl) (fun _ _ _ h => h) (Or.inl ⟨by rfl, ?_⟩) (by assumption) ?_
              rotate_left 1
              · (intro w hSw; (try dsimp only at hSw); go_simp; (try with_reducible rfl))
              try simp only [Act.put, List.setIfInBounds_toArray, List.set_cons_zero, List.set_cons_succ]
              refine wpAnyH_take (i := 23) (oi := Oper.mk (some 124) (Op.move (Operand.tmp 123)) 4 "law.go:128" #[Edge.mk 22 Ground.data, Edge.mk 20 Ground.chain] none) (v := ?_) rfl (by kernel_rfl) (by kernel_rfl) (by kernel_rfl) (fun _ _ _ h => h) (Or.inl ⟨by rfl, ?_⟩) (by assumption) ?_
              rotate_left 1
              · (intro w hSw; (try dsimp only at hSw); go_simp; (try with_reducible rfl))
              try simp only [Act.put, List.setIfInBounds_toArray, List.set_cons_zero, List.set_cons_succ]
              refine wpAnyH_take (i := 24) (oi := Oper.mk (some 125) (Op.fieldAddr 63 (Operand.tmp 14) 0) 0 "law.go:128" #[Edge.mk 23 Ground.guard] (some (23, true))) (v := undef) rfl (by kernel_rfl) (by kernel_rfl) (by kernel_rfl) (fun _ _ _ h => h) (Or.inr ⟨by rfl, rfl⟩) (by assumption) ?_
              try simp only [Act.put, List.setIfInBounds_toArray, List.set_cons_zero, List.set_cons_succ]
              refine wpAnyH_take (i := 25) (oi := Oper.mk (some 126) (Op.load 9 (Operand.tmp 125)) 9 "law.go:128" #[Edge.mk 24 Ground.data, Edge.mk 23 Ground.guard] (some (23, true))) (v := undef) rfl (by kernel_rfl) (by kernel_rfl) (by kernel_rfl) (fun _ _ _ h => h) (Or.inr ⟨by rfl, rfl⟩) (by assumption) ?_
              try simp only [Act.put, List.setIfInBounds_toArray, List.set_cons_zero, List.set_cons_succ]
              refine wpAnyH_take (i := 26) (oi := Oper.mk (some 127) (Op.move (Operand.tmp 8)) 44 "law.go:128" #[Edge.mk 23 Ground.guard] (some (23, true))) (v := undef) rfl (by kernel_rfl) (by kernel_rfl) (by kernel_rfl) (fun _ _ _ h => h) (Or.inr ⟨by rfl, rfl⟩) (by assumption) ?_
              try simp only [Act.put, List.setIfInBounds_toArray, List.set_cons_zero, List.set_cons_succ]
              refine wpAnyH_take (i := 27) (oi := Oper.mk (some 128) (Op.move (Operand.tmp 8)) 44 "law.go:128" #[Edge.mk 23 Ground.guard] (some (23, true))) (v := undef) rfl (by kernel_rfl) (by kernel_rfl) (by kernel_rfl) (fun _ _ _ h => h) (Or.inr ⟨by rfl, rfl⟩) (by assumption) ?_
              try simp only [Act.put, List.setIfInBounds_toArray, List.set_cons_zero, List.set_cons_succ]
              refine wpAnyH_take (i := 28) (oi := Oper.mk (some 129) (Op.call (Call.mk (Callee.value (Operand.func 32)) #[Operand.tmp 128] #[44])) 3 "law.go:128" #[Edge.mk 27 Ground.data, Edge.mk 23 Ground.chain, Edge.mk 23 Ground.guard] (some (23, true))) (v := undef) rfl (by kernel_rfl) (by kernel_rfl) (by kernel_rfl) (fun _ _ _ h => h) (Or.inr ⟨by rfl, rfl⟩) (by assumption) ?_
              try simp only [Act.put, List.setIfInBounds_toArray, List.set_cons_zero, List.set_cons_succ]
              refine wpAnyH_take (i := 29) (oi := Oper.mk (some 130) (Op.indexAddr 44 (Operand.tmp 127) (Operand.tmp 129)) 0 "law.go:128" #[Edge.mk 26 Ground.data, Edge.mk 28 Ground.data, Edge.mk 23 Ground.guard] (some (23, true))) (v := undef) rfl (by kernel_rfl) (by kernel_rfl) (by kernel_rfl) (fun _ _ _ h => h) (Or.inr ⟨by rfl, rfl⟩) (by assumption) ?_
              try simp only [Act.put, List.setIfInBounds_toArray, List.set_cons_zero, List.set_cons_succ]
              refine wpAnyH_take (i := 30) (oi := Oper.mk (some 131) (Op.fieldAddr 63 (Operand.tmp 130) 0) 0 "law.go:128" #[Edge.mk 29 Ground.data, Edge.mk 23 Ground.guard] (some (23, true))) (v := undef) rfl (by kernel_rfl) (by kernel_rfl) (by kernel_rfl) (fun _ _ _ h => h) (Or.inr ⟨by rfl, rfl⟩) (by assumption) ?_
              try simp only [Act.put, List.setIfInBounds_toArray, List.set_cons_zero, List.set_cons_succ]
              refine wpAnyH_take (i := 31) (oi := Oper.mk (some 132) (Op.load 9 (Operand.tmp 131)) 9 "law.go:128" #[Edge.mk 30 Ground.data, Edge.mk 23 Ground.guard] (some (23, true))) (v := undef) rfl (by kernel_rfl) (by kernel_rfl) (by kernel_rfl) (fun _ _ _ h => h) (Or.inr ⟨by rfl, rfl⟩) (by assumption) ?_
              try simp only [Act.put, List.setIfInBounds_toArray, List.set_cons_zero, List.set_cons_succ]
              refine wpAnyH_take (i := 32) (oi := Oper.mk (some 133) (Op.binOp BinOp.eql 9 (Operand.tmp 126) (Operand.tmp 132) 9) 4 "law.go:128" #[Edge.mk 25 Ground.data, Edge.mk 31 Ground.data, Edge.mk 23 Ground.guard] (some (23, true))) (v := undef) rfl (by kernel_rfl) (by kernel_rfl) (by kernel_rfl) (fun _ _ _ h => h) (Or.inr ⟨by rfl, rfl⟩) (by assumption) ?_
              try simp only [Act.put, List.setIfInBounds_toArray, List.set_cons_zero, List.set_cons_succ]
              refine wpAnyH_take (i := 33) (oi := Oper.mk (some 134) (Op.pick (Operand.tmp 124) (Operand.tmp 133) (Operand.const (Value.bool false))) 4 "law.go:128" #[Edge.mk 23 Ground.data, Edge.mk 32 Ground.data] none) (v := ?_) rfl (by kernel_rfl) (by kernel_rfl) (by kernel_rfl) (fun _ _ _ h => h) (Or.inl ⟨by rfl, ?_⟩) (by assumption) ?_
              rotate_left 1
              · (intro w hSw; (try dsimp only at hSw); go_simp; (try with_reducible rfl))
              try simp only [Act.put, List.setIfInBounds_toArray, List.set_cons_zero, List.set_cons_succ]
              refine wpAnyH_done (by kernel_rfl) ?_ _
              go_wp2_with fail
              go_roundw
              case rel => exact ⟨k + 1, by omega, by go_num, Lib.hid (HB03.out.trans (HB0.out.mono HB03.out.size))⟩
              case measure => simp [intOf]; omega
          · have e2 : (mode == 2) = false := by simpa using m2
            by_cases m1 : mode = 1
            · have e1 : (mode == 1) = true := by simpa using m1
              have hx1 := (HB83.out.cell (p := ⟨b8, o8 + a * 2 + 1, none⟩) hbb).trans HX1.out
              by_cases z2 : za = 2
              · have e3 : (za == 2) = true := by simpa using z2
                by_cases s1 : st = 1
                · have e4 : (st == 1) = true := by simpa using s1
                  have hM1 := HOI.out m1 s1
                  have hka : k = a := by omega
                  have e5 : ((k : Int) == (a : Int)) = true := by rw [hka]; simp
                  clear hka m1 m2 s1 z2
                  go_upto_region 21 with fail
                  have SH : Hid (∀ W, Below W3.heap.size W3 W → W.cell? ⟨bp, 2, none⟩ = some (.int .i64 st) ∧ W.cell? ⟨gk, 0, none⟩ = some (.string s) ∧ W.cell? ⟨gk, 1, none⟩ = some (.int .i64 z)) := fun W hW => ⟨(KP3.out.below hW).cell 2 rfl, (K3.out.below hW).cell 0 rfl, (K3.out.below hW).cell 1 rfl⟩
                  clear f0 f1 f2
                  have HB0 := Lib.hid (show Below W3.heap.size W3 W3.drew from Below_drew (Below.refl _ _))
                  obtain ⟨X0, hX0⟩ : ∃ X, X = W3.drew := ⟨_, rfl⟩
                  refine wp_region_held_drew (S := (fun w' => w'.cell? ⟨bp, 2, none⟩ = some (.int .i64 st) ∧ w'.cell? ⟨gk, 0, none⟩ = some (.string s) ∧ w'.cell? ⟨gk, 1, none⟩ = some (.int .i64 z))) (by kernel_rfl) (SH.out _ HB0.out) (fun hH0 => ?_)
                  rw [← hX0] at HB0 hH0 ⊢
                  clear hX0
                  refine wpAnyH_take (i := 0) (oi := Oper.mk (some 101) (Op.move (Operand.tmp 2)) 3 "law.go:128" #[] none) (v := ?_) rfl (by kernel_rfl) (by kernel_rfl) (by kernel_rfl) (fun _ _ _ h => h) (Or.inl ⟨by rfl, ?_⟩) (by assumption) ?_
                  rotate_left 1
                  · (intro w hSw; (try dsimp only at hSw); go_simp; (try with_reducible rfl))
                  try simp only [Act.put, List.setIfInBounds_toArray, List.set_cons_zero, List.set_cons_succ]
                  refine wpAnyH_take (i := 1) (oi := Oper.mk (some 102) (Op.binOp BinOp.eql 3 (Operand.tmp 101) (Operand.const (Value.int IntKind.i64 2)) 3) 4 "law.go:128" #[Edge.mk 0 Ground.data] none) (v := ?_) rfl (by kernel_rfl) (by kernel_rfl) (by kernel_rfl) (fun _ _ _ h => h) (Or.inl ⟨by rfl, ?_⟩) (by assumption) ?_
                  rotate_left 1
                  · (intro w hSw; (try dsimp only at hSw); go_simp; (try with_reducible rfl))
                  try simp only [Act.put, List.setIfInBounds_toArray, List.set_cons_zero, List.set_cons_succ]
                  refine wpAnyH_take (i := 2) (oi := Oper.mk (some 103) (Op.move (Operand.tmp 102)) 4 "law.go:128" #[Edge.mk 1 Ground.data] none) (v := ?_) rfl (by kernel_rfl) (by kernel_rfl) (by kernel_rfl) (fun _ _ _ h => h) (Or.inl ⟨by rfl, ?_⟩) (by assumption) ?_
                  rotate_left 1
                  · (intro w hSw; (try dsimp only at hSw); go_simp; (try with_reducible rfl))
                  try simp only [Act.put, List.setIfInBounds_toArray, List.set_cons_zero, List.set_cons_succ]
                  refine wpAnyH_take (i := 3) (oi := Oper.mk (some 104) (Op.fieldAddr 50 (Operand.tmp 9) 2) 0 "law.go:128" #[Edge.mk 2 Ground.guard] (some (2, true))) (v := undef) rfl (by kernel_rfl) (by kernel_rfl) (by kernel_rfl) (fun _ _ _ h => h) (Or.inr ⟨by rfl, rfl⟩) (by assumption) ?_
                  try simp only [Act.put, List.setIfInBounds_toArray, List.set_cons_zero, List.set_cons_succ]
                  refine wpAnyH_take (i := 4) (oi := Oper.mk (some 105) (Op.load 3 (Operand.tmp 104)) 3 "law.go:128" #[Edge.mk 3 Ground.data, Edge.mk 2 Ground.guard] (some (2, true))) (v := undef) rfl (by kernel_rfl) (by kernel_rfl) (by kernel_rfl) (fun _ _ _ h => h) (Or.inr ⟨by rfl, rfl⟩) (by assumption) ?_
                  try simp only [Act.put, List.setIfInBounds_toArray, List.set_cons_zero, List.set_cons_succ]
                  refine wpAnyH_take (i := 5) (oi := Oper.mk (some 106) (Op.binOp BinOp.eql 3 (Operand.tmp 105) (Operand.const (Value.int IntKind.i64 1)) 3) 4 "law.go:128" #[Edge.mk 4 Ground.data, Edge.mk 2 Ground.guard] (some (2, true))) (v := undef) rfl (by kernel_rfl) (by kernel_rfl) (by kernel_rfl) (fun _ _ _ h => h) (Or.inr ⟨by rfl, rfl⟩) (by assumption) ?_
                  try simp only [Act.put, List.setIfInBounds_toArray, List.set_cons_zero, List.set_cons_succ]
                  refine wpAnyH_take (i := 6) (oi := Oper.mk (some 107) (Op.pick (Operand.tmp 103) (Operand.tmp 106) (Operand.const (Value.bool false))) 4 "law.go:128" #[Edge.mk 2 Ground.data, Edge.mk 5 Ground.data] none) (v := ?_) rfl (by kernel_rfl) (by kernel_rfl) (by kernel_rfl) (fun _ _ _ h => h) (Or.inl ⟨by rfl, ?_⟩) (by assumption) ?_
                  rotate_left 1
                  · (intro w hSw; (try dsimp only at hSw); go_simp; (try with_reducible rfl))
                  try simp only [Act.put, List.setIfInBounds_toArray, List.set_cons_zero, List.set_cons_succ]
                  refine wpAnyH_take (i := 7) (oi := Oper.mk (some 108) (Op.move (Operand.tmp 107)) 4 "law.go:128" #[Edge.mk 6 Ground.data, Edge.mk 2 Ground.chain] none) (v := ?_) rfl (by kernel_rfl) (by kernel_rfl) (by kernel_rfl) (fun _ _ _ h => h) (Or.inl ⟨by rfl, ?_⟩) (by assumption) ?_
                  rotate_left 1
                  · (intro w hSw; (try dsimp only at hSw); go_simp; (try with_reducible rfl))
                  try simp only [Act.put, List.setIfInBounds_toArray, List.set_cons_zero, List.set_cons_succ]
                  refine wpAnyH_take (i := 8) (oi := Oper.mk (some 109) (Op.fieldAddr 63 (Operand.tmp 14) 1) 0 "law.go:128" #[Edge.mk 7 Ground.guard] (some (7, true))) (v := undef) rfl (by kernel_rfl) (by kernel_rfl) (by kernel_rfl) (fun _ _ _ h => h) (Or.inr ⟨by rfl, rfl⟩) (by assumption) ?_
                  try simp only [Act.put, List.setIfInBounds_toArray, List.set_cons_zero, List.set_cons_succ]
                  refine wpAnyH_take (i := 9) (oi := Oper.mk (some 110) (Op.load 3 (Operand.tmp 109)) 3 "law.go:128" #[Edge.mk 8 Ground.data, Edge.mk 7 Ground.guard] (some (7, true))) (v := undef) rfl (by kernel_rfl) (by kernel_rfl) (by kernel_rfl) (fun _ _ _ h => h) (Or.inr ⟨by rfl, rfl⟩) (by assumption) ?_
                  try simp only [Act.put, List.setIfInBounds_toArray, List.set_cons_zero, List.set_cons_succ]
                  refine wpAnyH_take (i := 10) (oi := Oper.mk (some 111) (Op.binOp BinOp.eql 3 (Operand.tmp 110) (Operand.const (Value.int IntKind.i64 5)) 3) 4 "law.go:128" #[Edge.mk 9 Ground.data, Edge.mk 7 Ground.guard] (some (7, true))) (v := undef) rfl (by kernel_rfl) (by kernel_rfl) (by kernel_rfl) (fun _ _ _ h => h) (Or.inr ⟨by rfl, rfl⟩) (by assumption) ?_
                  try simp only [Act.put, List.setIfInBounds_toArray, List.set_cons_zero, List.set_cons_succ]
                  refine wpAnyH_take (i := 11) (oi := Oper.mk (some 112) (Op.pick (Operand.tmp 108) (Operand.tmp 111) (Operand.const (Value.bool false))) 4 "law.go:128" #[Edge.mk 7 Ground.data, Edge.mk 10 Ground.data] none) (v := ?_) rfl (by kernel_rfl) (by kernel_rfl) (by kernel_rfl) (fun _ _ _ h => h) (Or.inl ⟨by rfl, ?_⟩) (by assumption) ?_
                  rotate_left 1
                  · (intro w hSw; (try dsimp only at hSw); go_simp; (try with_reducible rfl))
                  try simp only [Act.put, List.setIfInBounds_toArray, List.set_cons_zero, List.set_cons_succ]
                  refine wpAnyH_take (i := 12) (oi := Oper.mk (some 113) (Op.move (Operand.tmp 112)) 4 "law.go:128" #[Edge.mk 11 Ground.data, Edge.mk 7 Ground.chain] none) (v := ?_) rfl (by kernel_rfl) (by kernel_rfl) (by kernel_rfl) (fun _ _ _ h => h) (Or.inl ⟨by rfl, ?_⟩) (by assumption) ?_
                  rotate_left 1
                  · (intro w hSw; (try dsimp only at hSw); go_simp; (try with_reducible rfl))
                  try simp only [Act.put, List.setIfInBounds_toArray, List.set_cons_zero, List.set_cons_succ]
                  refine wpAnyH_take (i := 13) (oi := Oper.mk (some 114) (Op.move (Operand.tmp 13)) 3 "law.go:128" #[Edge.mk 12 Ground.guard] (some (12, true))) (v := undef) rfl (by kernel_rfl) (by kernel_rfl) (by kernel_rfl) (fun _ _ _ h => h) (Or.inr ⟨by rfl, rfl⟩) (by assumption) ?_
                  try simp only [Act.put, List.setIfInBounds_toArray, List.set_cons_zero, List.set_cons_succ]
                  refine wpAnyH_take (i := 14) (oi := Oper.mk (some 115) (Op.move (Operand.tmp 8)) 44 "law.go:128" #[Edge.mk 12 Ground.guard] (some (12, true))) (v := undef) rfl (by kernel_rfl) (by kernel_rfl) (by kernel_rfl) (fun _ _ _ h => h) (Or.inr ⟨by rfl, rfl⟩) (by assumption) ?_
                  try simp only [Act.put, List.setIfInBounds_toArray, List.set_cons_zero, List.set_cons_succ]
                  refine wpAnyH_take (i := 15) (oi := Oper.mk (some 116) (Op.call (Call.mk (Callee.builtin Builtin.len) #[Operand.tmp 115] #[44])) 3 "law.go:128" #[Edge.mk 14 Ground.data, Edge.mk 12 Ground.guard] (some (12, true))) (v := undef) rfl (by kernel_rfl) (by kernel_rfl) (by kernel_rfl) (fun _ _ _ h => h) (Or.inr ⟨by rfl, rfl⟩) (by assumption) ?_
                  try simp only [Act.put, List.setIfInBounds_toArray, List.set_cons_zero, List.set_cons_succ]
                  refine wpAnyH_take (i := 16) (oi := Oper.mk (some 117) (Op.binOp BinOp.lss 3 (Operand.tmp 114) (Operand.tmp 116) 3) 4 "law.go:128" #[Edge.mk 13 Ground.data, Edge.mk 15 Ground.data, Edge.mk 12 Ground.guard] (some (12, true))) (v := undef) rfl (by kernel_rfl) (by kernel_rfl) (by kernel_rfl) (fun _ _ _ h => h) (Or.inr ⟨by rfl, rfl⟩) (by assumption) ?_
                  try simp only [Act.put, List.setIfInBounds_toArray, List.set_cons_zero, List.set_cons_succ]
                  refine wpAnyH_take (i := 17) (oi := Oper.mk (some 118) (Op.pick (Operand.tmp 113) (Operand.tmp 117) (Operand.const (Value.bool false))) 4 "law.go:128" #[Edge.mk 12 Ground.data, Edge.mk 16 Ground.data] none) (v := ?_) rfl (by kernel_rfl) (by kernel_rfl) (by kernel_rfl) (fun _ _ _ h => h) (Or.inl ⟨by rfl, ?_⟩) (by assumption) ?_
                  rotate_left 1
                  · (intro w hSw; (try dsimp only at hSw); go_simp; (try with_reducible rfl))
                  try simp only [Act.put, List.setIfInBounds_toArray, List.set_cons_zero, List.set_cons_succ]
                  refine wpAnyH_take (i := 18) (oi := Oper.mk (some 119) (Op.move (Operand.tmp 118)) 4 "law.go:128" #[Edge.mk 17 Ground.data, Edge.mk 12 Ground.chain] none) (v := ?_) rfl (by kernel_rfl) (by kernel_rfl) (by kernel_rfl) (fun _ _ _ h => h) (Or.inl ⟨by rfl, ?_⟩) (by assumption) ?_
                  rotate_left 1
                  · (intro w hSw; (try dsimp only at hSw); go_simp; (try with_reducible rfl))
                  try simp only [Act.put, List.setIfInBounds_toArray, List.set_cons_zero, List.set_cons_succ]
                  refine wpAnyH_take (i := 19) (oi := Oper.mk (some 120) (Op.move (Operand.tmp 8)) 44 "law.go:128" #[Edge.mk 18 Ground.guard] (some (18, true))) (v := undef) rfl (by kernel_rfl) (by kernel_rfl) (by kernel_rfl) (fun _ _ _ h => h) (Or.inr ⟨by rfl, rfl⟩) (by assumption) ?_
                  try simp only [Act.put, List.setIfInBounds_toArray, List.set_cons_zero, List.set_cons_succ]
                  refine wpAnyH_take (i := 20) (oi := Oper.mk (some 121) (Op.call (Call.mk (Callee.value (Operand.func 32)) #[Operand.tmp 120] #[44])) 3 "law.go:128" #[Edge.mk 19 Ground.data, Edge.mk 18 Ground.chain, Edge.mk 18 Ground.guard] (some (18, true))) (v := undef) rfl (by kernel_rfl) (by kernel_rfl) (by kernel_rfl) (fun _ _ _ h => h) (Or.inr ⟨by rfl, rfl⟩) (by assumption) ?_
                  try simp only [Act.put, List.setIfInBounds_toArray, List.set_cons_zero, List.set_cons_succ]
                  refine wpAnyH_take (i := 21) (oi := Oper.mk (some 122) (Op.binOp BinOp.geq 3 (Operand.tmp 121) (Operand.const (Value.int IntKind.i64 0)) 3) 4 "law.go:128" #[Edge.mk 20 Ground.data, Edge.mk 18 Ground.guard] (some (18, true))) (v := undef) rfl (by kernel_rfl) (by kernel_rfl) (by kernel_rfl) (fun _ _ _ h => h) (Or.inr ⟨by rfl, rfl⟩) (by assumption) ?_
                  try simp only [Act.put, List.setIfInBounds_toArray, List.set_cons_zero, List.set_cons_succ]
                  refine wpAnyH_take (i := 22) (oi := Oper.mk (some 123) (Op.pick (Operand.tmp 119) (Operand.tmp 122) (Operand.const (Value.bool false))) 4 "law.go:128" #[Edge.mk 18 Ground.data, Edge.mk 21 Ground.data] none) (v := ?_) rfl (by kernel_rfl) (by kernel_rfl) (by kernel_rfl) (fun _ _ _ h => h) (Or.inl ⟨by rfl, ?_⟩) (by assumption) ?_
                  rotate_left 1
                  · (intro w hSw; (try dsimp only at hSw); go_simp; (try with_reducible rfl))
                  try simp only [Act.put, List.setIfInBounds_toArray, List.set_cons_zero, List.set_cons_succ]
                  refine wpAnyH_take (i := 23) (oi := Oper.mk (some 124) (Op.move (Operand.tmp 123)) 4 "law.go:128" #[Edge.mk 22 Ground.data, Edge.mk 20 Ground.chain] none) (v := ?_) rfl (by kernel_rfl) (by kernel_rfl) (by kernel_rfl) (fun _ _ _ h => h) (Or.inl ⟨by rfl, ?_⟩) (by assumption) ?_
                  rotate_left 1
                  · (intro w hSw; (try dsimp only at hSw); go_simp; (try with_reducible rfl))
                  try simp only [Act.put, List.setIfInBounds_toArray, List.set_cons_zero, List.set_cons_succ]
                  refine wpAnyH_take (i := 24) (oi := Oper.mk (some 125) (Op.fieldAddr 63 (Operand.tmp 14) 0) 0 "law.go:128" #[Edge.mk 23 Ground.guard] (some (23, true))) (v := undef) rfl (by kernel_rfl) (by kernel_rfl) (by kernel_rfl) (fun _ _ _ h => h) (Or.inr ⟨by rfl, rfl⟩) (by assumption) ?_
                  try simp only [Act.put, List.setIfInBounds_toArray, List.set_cons_zero, List.set_cons_succ]
                  refine wpAnyH_take (i := 25) (oi := Oper.mk (some 126) (Op.load 9 (Operand.tmp 125)) 9 "law.go:128" #[Edge.mk 24 Ground.data, Edge.mk 23 Ground.guard] (some (23, true))) (v := undef) rfl (by kernel_rfl) (by kernel_rfl) (by kernel_rfl) (fun _ _ _ h => h) (Or.inr ⟨by rfl, rfl⟩) (by assumption) ?_
                  try simp only [Act.put, List.setIfInBounds_toArray, List.set_cons_zero, List.set_cons_succ]
                  refine wpAnyH_take (i := 26) (oi := Oper.mk (some 127) (Op.move (Operand.tmp 8)) 44 "law.go:128" #[Edge.mk 23 Ground.guard] (some (23, true))) (v := undef) rfl (by kernel_rfl) (by kernel_rfl) (by kernel_rfl) (fun _ _ _ h => h) (Or.inr ⟨by rfl, rfl⟩) (by assumption) ?_
                  try simp only [Act.put, List.setIfInBounds_toArray, List.set_cons_zero, List.set_cons_succ]
                  refine wpAnyH_take (i := 27) (oi := Oper.mk (some 128) (Op.move (Operand.tmp 8)) 44 "law.go:128" #[Edge.mk 23 Ground.guard] (some (23, true))) (v := undef) rfl (by kernel_rfl) (by kernel_rfl) (by kernel_rfl) (fun _ _ _ h => h) (Or.inr ⟨by rfl, rfl⟩) (by assumption) ?_
                  try simp only [Act.put, List.setIfInBounds_toArray, List.set_cons_zero, List.set_cons_succ]
                  refine wpAnyH_take (i := 28) (oi := Oper.mk (some 129) (Op.call (Call.mk (Callee.value (Operand.func 32)) #[Operand.tmp 128] #[44])) 3 "law.go:128" #[Edge.mk 27 Ground.data, Edge.mk 23 Ground.chain, Edge.mk 23 Ground.guard] (some (23, true))) (v := undef) rfl (by kernel_rfl) (by kernel_rfl) (by kernel_rfl) (fun _ _ _ h => h) (Or.inr ⟨by rfl, rfl⟩) (by assumption) ?_
                  try simp only [Act.put, List.setIfInBounds_toArray, List.set_cons_zero, List.set_cons_succ]
                  refine wpAnyH_take (i := 29) (oi := Oper.mk (some 130) (Op.indexAddr 44 (Operand.tmp 127) (Operand.tmp 129)) 0 "law.go:128" #[Edge.mk 26 Ground.data, Edge.mk 28 Ground.data, Edge.mk 23 Ground.guard] (some (23, true))) (v := undef) rfl (by kernel_rfl) (by kernel_rfl) (by kernel_rfl) (fun _ _ _ h => h) (Or.inr ⟨by rfl, rfl⟩) (by assumption) ?_
                  try simp only [Act.put, List.setIfInBounds_toArray, List.set_cons_zero, List.set_cons_succ]
                  refine wpAnyH_take (i := 30) (oi := Oper.mk (some 131) (Op.fieldAddr 63 (Operand.tmp 130) 0) 0 "law.go:128" #[Edge.mk 29 Ground.data, Edge.mk 23 Ground.guard] (some (23, true))) (v := undef) rfl (by kernel_rfl) (by kernel_rfl) (by kernel_rfl) (fun _ _ _ h => h) (Or.inr ⟨by rfl, rfl⟩) (by assumption) ?_
                  try simp only [Act.put, List.setIfInBounds_toArray, List.set_cons_zero, List.set_cons_succ]
                  refine wpAnyH_take (i := 31) (oi := Oper.mk (some 132) (Op.load 9 (Operand.tmp 131)) 9 "law.go:128" #[Edge.mk 30 Ground.data, Edge.mk 23 Ground.guard] (some (23, true))) (v := undef) rfl (by kernel_rfl) (by kernel_rfl) (by kernel_rfl) (fun _ _ _ h => h) (Or.inr ⟨by rfl, rfl⟩) (by assumption) ?_
                  try simp only [Act.put, List.setIfInBounds_toArray, List.set_cons_zero, List.set_cons_succ]
                  refine wpAnyH_take (i := 32) (oi := Oper.mk (some 133) (Op.binOp BinOp.eql 9 (Operand.tmp 126) (Operand.tmp 132) 9) 4 "law.go:128" #[Edge.mk 25 Ground.data, Edge.mk 31 Ground.data, Edge.mk 23 Ground.guard] (some (23, true))) (v := undef) rfl (by kernel_rfl) (by kernel_rfl) (by kernel_rfl) (fun _ _ _ h => h) (Or.inr ⟨by rfl, rfl⟩) (by assumption) ?_
                  try simp only [Act.put, List.setIfInBounds_toArray, List.set_cons_zero, List.set_cons_succ]
                  refine wpAnyH_take (i := 33) (oi := Oper.mk (some 134) (Op.pick (Operand.tmp 124) (Operand.tmp 133) (Operand.const (Value.bool false))) 4 "law.go:128" #[Edge.mk 23 Ground.data, Edge.mk 32 Ground.data] none) (v := ?_) rfl (by kernel_rfl) (by kernel_rfl) (by kernel_rfl) (fun _ _ _ h => h) (Or.inl ⟨by rfl, ?_⟩) (by assumption) ?_
                  rotate_left 1
                  · (intro w hSw; (try dsimp only at hSw); go_simp; (try with_reducible rfl))
                  try simp only [Act.put, List.setIfInBounds_toArray, List.set_cons_zero, List.set_cons_succ]
                  refine wpAnyH_done (by kernel_rfl) ?_ _
                  go_wp2_with fail
                  go_roundw
                  case rel => exact ⟨k + 1, by omega, by go_num, Lib.hid (HB03.out.trans (HB0.out.mono HB03.out.size))⟩
                  case measure => simp [intOf]; omega
                · have e4 : (st == 1) = false := by simpa using s1
                  clear m1 m2 s1 z2
                  go_upto_region 21 with fail
                  have SH : Hid (∀ W, Below W3.heap.size W3 W → W.cell? ⟨bp, 2, none⟩ = some (.int .i64 st) ∧ W.cell? ⟨gk, 0, none⟩ = some (.string s) ∧ W.cell? ⟨gk, 1, none⟩ = some (.int .i64 z)) := fun W hW => ⟨(KP3.out.below hW).cell 2 rfl, (K3.out.below hW).cell 0 rfl, (K3.out.below hW).cell 1 rfl⟩
                  clear f0 f1 f2
                  have HB0 := Lib.hid (show Below W3.heap.size W3 W3.drew from Below_drew (Below.refl _ _))
                  obtain ⟨X0, hX0⟩ : ∃ X, X = W3.drew := ⟨_, rfl⟩
                  refine wp_region_held_drew (S := (fun w' => w'.cell? ⟨bp, 2, none⟩ = some (.int .i64 st) ∧ w'.cell? ⟨gk, 0, none⟩ = some (.string s) ∧ w'.cell? ⟨gk, 1, none⟩ = some (.int .i64 z))) (by kernel_rfl) (SH.out _ HB0.out) (fun hH0 => ?_)
                  rw [← hX0] at HB0 hH0 ⊢
                  clear hX0
                  refine wpAnyH_take (i := 0) (oi := Oper.mk (some 101) (Op.move (Operand.tmp 2)) 3 "law.go:128" #[] none) (v := ?_) rfl (by kernel_rfl) (by kernel_rfl) (by kernel_rfl) (fun _ _ _ h => h) (Or.inl ⟨by rfl, ?_⟩) (by assumption) ?_
                  rotate_left 1
                  · (intro w hSw; (try dsimp only at hSw); go_simp; (try with_reducible rfl))
                  try simp only [Act.put, List.setIfInBounds_toArray, List.set_cons_zero, List.set_cons_succ]
                  refine wpAnyH_take (i := 1) (oi := Oper.mk (some 102) (Op.binOp BinOp.eql 3 (Operand.tmp 101) (Operand.const (Value.int IntKind.i64 2)) 3) 4 "law.go:128" #[Edge.mk 0 Ground.data] none) (v := ?_) rfl (by kernel_rfl) (by kernel_rfl) (by kernel_rfl) (fun _ _ _ h => h) (Or.inl ⟨by rfl, ?_⟩) (by assumption) ?_
                  rotate_left 1
                  · (intro w hSw; (try dsimp only at hSw); go_simp; (try with_reducible rfl))
                  try simp only [Act.put, List.setIfInBounds_toArray, List.set_cons_zero, List.set_cons_succ]
                  refine wpAnyH_take (i := 2) (oi := Oper.mk (some 103) (Op.move (Operand.tmp 102)) 4 "law.go:128" #[Edge.mk 1 Ground.data] none) (v := ?_) rfl (by kernel_rfl) (by kernel_rfl) (by kernel_rfl) (fun _ _ _ h => h) (Or.inl ⟨by rfl, ?_⟩) (by assumption) ?_
                  rotate_left 1
                  · (intro w hSw; (try dsimp only at hSw); go_simp; (try with_reducible rfl))
                  try simp only [Act.put, List.setIfInBounds_toArray, List.set_cons_zero, List.set_cons_succ]
                  refine wpAnyH_take (i := 3) (oi := Oper.mk (some 104) (Op.fieldAddr 50 (Operand.tmp 9) 2) 0 "law.go:128" #[Edge.mk 2 Ground.guard] (some (2, true))) (v := undef) rfl (by kernel_rfl) (by kernel_rfl) (by kernel_rfl) (fun _ _ _ h => h) (Or.inr ⟨by rfl, rfl⟩) (by assumption) ?_
                  try simp only [Act.put, List.setIfInBounds_toArray, List.set_cons_zero, List.set_cons_succ]
                  refine wpAnyH_take (i := 4) (oi := Oper.mk (some 105) (Op.load 3 (Operand.tmp 104)) 3 "law.go:128" #[Edge.mk 3 Ground.data, Edge.mk 2 Ground.guard] (some (2, true))) (v := undef) rfl (by kernel_rfl) (by kernel_rfl) (by kernel_rfl) (fun _ _ _ h => h) (Or.inr ⟨by rfl, rfl⟩) (by assumption) ?_
                  try simp only [Act.put, List.setIfInBounds_toArray, List.set_cons_zero, List.set_cons_succ]
                  refine wpAnyH_take (i := 5) (oi := Oper.mk (some 106) (Op.binOp BinOp.eql 3 (Operand.tmp 105) (Operand.const (Value.int IntKind.i64 1)) 3) 4 "law.go:128" #[Edge.mk 4 Ground.data, Edge.mk 2 Ground.guard] (some (2, true))) (v := undef) rfl (by kernel_rfl) (by kernel_rfl) (by kernel_rfl) (fun _ _ _ h => h) (Or.inr ⟨by rfl, rfl⟩) (by assumption) ?_
                  try simp only [Act.put, List.setIfInBounds_toArray, List.set_cons_zero, List.set_cons_succ]
                  refine wpAnyH_take (i := 6) (oi := Oper.mk (some 107) (Op.pick (Operand.tmp 103) (Operand.tmp 106) (Operand.const (Value.bool false))) 4 "law.go:128" #[Edge.mk 2 Ground.data, Edge.mk 5 Ground.data] none) (v := ?_) rfl (by kernel_rfl) (by kernel_rfl) (by kernel_rfl) (fun _ _ _ h => h) (Or.inl ⟨by rfl, ?_⟩) (by assumption) ?_
                  rotate_left 1
                  · (intro w hSw; (try dsimp only at hSw); go_simp; (try with_reducible rfl))
                  try simp only [Act.put, List.setIfInBounds_toArray, List.set_cons_zero, List.set_cons_succ]
                  refine wpAnyH_take (i := 7) (oi := Oper.mk (some 108) (Op.move (Operand.tmp 107)) 4 "law.go:128" #[Edge.mk 6 Ground.data, Edge.mk 2 Ground.chain] none) (v := ?_) rfl (by kernel_rfl) (by kernel_rfl) (by kernel_rfl) (fun _ _ _ h => h) (Or.inl ⟨by rfl, ?_⟩) (by assumption) ?_
                  rotate_left 1
                  · (intro w hSw; (try dsimp only at hSw); go_simp; (try with_reducible rfl))
                  try simp only [Act.put, List.setIfInBounds_toArray, List.set_cons_zero, List.set_cons_succ]
                  refine wpAnyH_take (i := 8) (oi := Oper.mk (some 109) (Op.fieldAddr 63 (Operand.tmp 14) 1) 0 "law.go:128" #[Edge.mk 7 Ground.guard] (some (7, true))) (v := undef) rfl (by kernel_rfl) (by kernel_rfl) (by kernel_rfl) (fun _ _ _ h => h) (Or.inr ⟨by rfl, rfl⟩) (by assumption) ?_
                  try simp only [Act.put, List.setIfInBounds_toArray, List.set_cons_zero, List.set_cons_succ]
                  refine wpAnyH_take (i := 9) (oi := Oper.mk (some 110) (Op.load 3 (Operand.tmp 109)) 3 "law.go:128" #[Edge.mk 8 Ground.data, Edge.mk 7 Ground.guard] (some (7, true))) (v := undef) rfl (by kernel_rfl) (by kernel_rfl) (by kernel_rfl) (fun _ _ _ h => h) (Or.inr ⟨by rfl, rfl⟩) (by assumption) ?_
                  try simp only [Act.put, List.setIfInBounds_toArray, List.set_cons_zero, List.set_cons_succ]
                  refine wpAnyH_take (i := 10) (oi := Oper.mk (some 111) (Op.binOp BinOp.eql 3 (Operand.tmp 110) (Operand.const (Value.int IntKind.i64 5)) 3) 4 "law.go:128" #[Edge.mk 9 Ground.data, Edge.mk 7 Ground.guard] (some (7, true))) (v := undef) rfl (by kernel_rfl) (by kernel_rfl) (by kernel_rfl) (fun _ _ _ h => h) (Or.inr ⟨by rfl, rfl⟩) (by assumption) ?_
                  try simp only [Act.put, List.setIfInBounds_toArray, List.set_cons_zero, List.set_cons_succ]
                  refine wpAnyH_take (i := 11) (oi := Oper.mk (some 112) (Op.pick (Operand.tmp 108) (Operand.tmp 111) (Operand.const (Value.bool false))) 4 "law.go:128" #[Edge.mk 7 Ground.data, Edge.mk 10 Ground.data] none) (v := ?_) rfl (by kernel_rfl) (by kernel_rfl) (by kernel_rfl) (fun _ _ _ h => h) (Or.inl ⟨by rfl, ?_⟩) (by assumption) ?_
                  rotate_left 1
                  · (intro w hSw; (try dsimp only at hSw); go_simp; (try with_reducible rfl))
                  try simp only [Act.put, List.setIfInBounds_toArray, List.set_cons_zero, List.set_cons_succ]
                  refine wpAnyH_take (i := 12) (oi := Oper.mk (some 113) (Op.move (Operand.tmp 112)) 4 "law.go:128" #[Edge.mk 11 Ground.data, Edge.mk 7 Ground.chain] none) (v := ?_) rfl (by kernel_rfl) (by kernel_rfl) (by kernel_rfl) (fun _ _ _ h => h) (Or.inl ⟨by rfl, ?_⟩) (by assumption) ?_
                  rotate_left 1
                  · (intro w hSw; (try dsimp only at hSw); go_simp; (try with_reducible rfl))
                  try simp only [Act.put, List.setIfInBounds_toArray, List.set_cons_zero, List.set_cons_succ]
                  refine wpAnyH_take (i := 13) (oi := Oper.mk (some 114) (Op.move (Operand.tmp 13)) 3 "law.go:128" #[Edge.mk 12 Ground.guard] (some (12, true))) (v := undef) rfl (by kernel_rfl) (by kernel_rfl) (by kernel_rfl) (fun _ _ _ h => h) (Or.inr ⟨by rfl, rfl⟩) (by assumption) ?_
                  try simp only [Act.put, List.setIfInBounds_toArray, List.set_cons_zero, List.set_cons_succ]
                  refine wpAnyH_take (i := 14) (oi := Oper.mk (some 115) (Op.move (Operand.tmp 8)) 44 "law.go:128" #[Edge.mk 12 Ground.guard] (some (12, true))) (v := undef) rfl (by kernel_rfl) (by kernel_rfl) (by kernel_rfl) (fun _ _ _ h => h) (Or.inr ⟨by rfl, rfl⟩) (by assumption) ?_
                  try simp only [Act.put, List.setIfInBounds_toArray, List.set_cons_zero, List.set_cons_succ]
                  refine wpAnyH_take (i := 15) (oi := Oper.mk (some 116) (Op.call (Call.mk (Callee.builtin Builtin.len) #[Operand.tmp 115] #[44])) 3 "law.go:128" #[Edge.mk 14 Ground.data, Edge.mk 12 Ground.guard] (some (12, true))) (v := undef) rfl (by kernel_rfl) (by kernel_rfl) (by kernel_rfl) (fun _ _ _ h => h) (Or.inr ⟨by rfl, rfl⟩) (by assumption) ?_
                  try simp only [Act.put, List.setIfInBounds_toArray, List.set_cons_zero, List.set_cons_succ]
                  refine wpAnyH_take (i := 16) (oi := Oper.mk (some 117) (Op.binOp BinOp.lss 3 (Operand.tmp 114) (Operand.tmp 116) 3) 4 "law.go:128" #[Edge.mk 13 Ground.data, Edge.mk 15 Ground.data, Edge.mk 12 Ground.guard] (some (12, true))) (v := undef) rfl (by kernel_rfl) (by kernel_rfl) (by kernel_rfl) (fun _ _ _ h => h) (Or.inr ⟨by rfl, rfl⟩) (by assumption) ?_
                  try simp only [Act.put, List.setIfInBounds_toArray, List.set_cons_zero, List.set_cons_succ]
                  refine wpAnyH_take (i := 17) (oi := Oper.mk (some 118) (Op.pick (Operand.tmp 113) (Operand.tmp 117) (Operand.const (Value.bool false))) 4 "law.go:128" #[Edge.mk 12 Ground.data, Edge.mk 16 Ground.data] none) (v := ?_) rfl (by kernel_rfl) (by kernel_rfl) (by kernel_rfl) (fun _ _ _ h => h) (Or.inl ⟨by rfl, ?_⟩) (by assumption) ?_
                  rotate_left 1
                  · (intro w hSw; (try dsimp only at hSw); go_simp; (try with_reducible rfl))
                  try simp only [Act.put, List.setIfInBounds_toArray, List.set_cons_zero, List.set_cons_succ]
                  refine wpAnyH_take (i := 18) (oi := Oper.mk (some 119) (Op.move (Operand.tmp 118)) 4 "law.go:128" #[Edge.mk 17 Ground.data, Edge.mk 12 Ground.chain] none) (v := ?_) rfl (by kernel_rfl) (by kernel_rfl) (by kernel_rfl) (fun _ _ _ h => h) (Or.inl ⟨by rfl, ?_⟩) (by assumption) ?_
                  rotate_left 1
                  · (intro w hSw; (try dsimp only at hSw); go_simp; (try with_reducible rfl))
                  try simp only [Act.put, List.setIfInBounds_toArray, List.set_cons_zero, List.set_cons_succ]
                  refine wpAnyH_take (i := 19) (oi := Oper.mk (some 120) (Op.move (Operand.tmp 8)) 44 "law.go:128" #[Edge.mk 18 Ground.guard] (some (18, true))) (v := undef) rfl (by kernel_rfl) (by kernel_rfl) (by kernel_rfl) (fun _ _ _ h => h) (Or.inr ⟨by rfl, rfl⟩) (by assumption) ?_
                  try simp only [Act.put, List.setIfInBounds_toArray, List.set_cons_zero, List.set_cons_succ]
                  refine wpAnyH_take (i := 20) (oi := Oper.mk (some 121) (Op.call (Call.mk (Callee.value (Operand.func 32)) #[Operand.tmp 120] #[44])) 3 "law.go:128" #[Edge.mk 19 Ground.data, Edge.mk 18 Ground.chain, Edge.mk 18 Ground.guard] (some (18, true))) (v := undef) rfl (by kernel_rfl) (by kernel_rfl) (by kernel_rfl) (fun _ _ _ h => h) (Or.inr ⟨by rfl, rfl⟩) (by assumption) ?_
                  try simp only [Act.put, List.setIfInBounds_toArray, List.set_cons_zero, List.set_cons_succ]
                  refine wpAnyH_take (i := 21) (oi := Oper.mk (some 122) (Op.binOp BinOp.geq 3 (Operand.tmp 121) (Operand.const (Value.int IntKind.i64 0)) 3) 4 "law.go:128" #[Edge.mk 20 Ground.data, Edge.mk 18 Ground.guard] (some (18, true))) (v := undef) rfl (by kernel_rfl) (by kernel_rfl) (by kernel_rfl) (fun _ _ _ h => h) (Or.inr ⟨by rfl, rfl⟩) (by assumption) ?_
                  try simp only [Act.put, List.setIfInBounds_toArray, List.set_cons_zero, List.set_cons_succ]
                  refine wpAnyH_take (i := 22) (oi := Oper.mk (some 123) (Op.pick (Operand.tmp 119) (Operand.tmp 122) (Operand.const (Value.bool false))) 4 "law.go:128" #[Edge.mk 18 Ground.data, Edge.mk 21 Ground.data] none) (v := ?_) rfl (by kernel_rfl) (by kernel_rfl) (by kernel_rfl) (fun _ _ _ h => h) (Or.inl ⟨by rfl, ?_⟩) (by assumption) ?_
                  rotate_left 1
                  · (intro w hSw; (try dsimp only at hSw); go_simp; (try with_reducible rfl))
                  try simp only [Act.put, List.setIfInBounds_toArray, List.set_cons_zero, List.set_cons_succ]
                  refine wpAnyH_take (i := 23) (oi := Oper.mk (some 124) (Op.move (Operand.tmp 123)) 4 "law.go:128" #[Edge.mk 22 Ground.data, Edge.mk 20 Ground.chain] none) (v := ?_) rfl (by kernel_rfl) (by kernel_rfl) (by kernel_rfl) (fun _ _ _ h => h) (Or.inl ⟨by rfl, ?_⟩) (by assumption) ?_
                  rotate_left 1
                  · (intro w hSw; (try dsimp only at hSw); go_simp; (try with_reducible rfl))
                  try simp only [Act.put, List.setIfInBounds_toArray, List.set_cons_zero, List.set_cons_succ]
                  refine wpAnyH_take (i := 24) (oi := Oper.mk (some 125) (Op.fieldAddr 63 (Operand.tmp 14) 0) 0 "law.go:128" #[Edge.mk 23 Ground.guard] (some (23, true))) (v := undef) rfl (by kernel_rfl) (by kernel_rfl) (by kernel_rfl) (fun _ _ _ h => h) (Or.inr ⟨by rfl, rfl⟩) (by assumption) ?_
                  try simp only [Act.put, List.setIfInBounds_toArray, List.set_cons_zero, List.set_cons_succ]
                  refine wpAnyH_take (i := 25) (oi := Oper.mk (some 126) (Op.load 9 (Operand.tmp 125)) 9 "law.go:128" #[Edge.mk 24 Ground.data, Edge.mk 23 Ground.guard] (some (23, true))) (v := undef) rfl (by kernel_rfl) (by kernel_rfl) (by kernel_rfl) (fun _ _ _ h => h) (Or.inr ⟨by rfl, rfl⟩) (by assumption) ?_
                  try simp only [Act.put, List.setIfInBounds_toArray, List.set_cons_zero, List.set_cons_succ]
                  refine wpAnyH_take (i := 26) (oi := Oper.mk (some 127) (Op.move (Operand.tmp 8)) 44 "law.go:128" #[Edge.mk 23 Ground.guard] (some (23, true))) (v := undef) rfl (by kernel_rfl) (by kernel_rfl) (by kernel_rfl) (fun _ _ _ h => h) (Or.inr ⟨by rfl, rfl⟩) (by assumption) ?_
                  try simp only [Act.put, List.setIfInBounds_toArray, List.set_cons_zero, List.set_cons_succ]
                  refine wpAnyH_take (i := 27) (oi := Oper.mk (some 128) (Op.move (Operand.tmp 8)) 44 "law.go:128" #[Edge.mk 23 Ground.guard] (some (23, true))) (v := undef) rfl (by kernel_rfl) (by kernel_rfl) (by kernel_rfl) (fun _ _ _ h => h) (Or.inr ⟨by rfl, rfl⟩) (by assumption) ?_
                  try simp only [Act.put, List.setIfInBounds_toArray, List.set_cons_zero, List.set_cons_succ]
                  refine wpAnyH_take (i := 28) (oi := Oper.mk (some 129) (Op.call (Call.mk (Callee.value (Operand.func 32)) #[Operand.tmp 128] #[44])) 3 "law.go:128" #[Edge.mk 27 Ground.data, Edge.mk 23 Ground.chain, Edge.mk 23 Ground.guard] (some (23, true))) (v := undef) rfl (by kernel_rfl) (by kernel_rfl) (by kernel_rfl) (fun _ _ _ h => h) (Or.inr ⟨by rfl, rfl⟩) (by assumption) ?_
                  try simp only [Act.put, List.setIfInBounds_toArray, List.set_cons_zero, List.set_cons_succ]
                  refine wpAnyH_take (i := 29) (oi := Oper.mk (some 130) (Op.indexAddr 44 (Operand.tmp 127) (Operand.tmp 129)) 0 "law.go:128" #[Edge.mk 26 Ground.data, Edge.mk 28 Ground.data, Edge.mk 23 Ground.guard] (some (23, true))) (v := undef) rfl (by kernel_rfl) (by kernel_rfl) (by kernel_rfl) (fun _ _ _ h => h) (Or.inr ⟨by rfl, rfl⟩) (by assumption) ?_
                  try simp only [Act.put, List.setIfInBounds_toArray, List.set_cons_zero, List.set_cons_succ]
                  refine wpAnyH_take (i := 30) (oi := Oper.mk (some 131) (Op.fieldAddr 63 (Operand.tmp 130) 0) 0 "law.go:128" #[Edge.mk 29 Ground.data, Edge.mk 23 Ground.guard] (some (23, true))) (v := undef) rfl (by kernel_rfl) (by kernel_rfl) (by kernel_rfl) (fun _ _ _ h => h) (Or.inr ⟨by rfl, rfl⟩) (by assumption) ?_
                  try simp only [Act.put, List.setIfInBounds_toArray, List.set_cons_zero, List.set_cons_succ]
                  refine wpAnyH_take (i := 31) (oi := Oper.mk (some 132) (Op.load 9 (Operand.tmp 131)) 9 "law.go:128" #[Edge.mk 30 Ground.data, Edge.mk 23 Ground.guard] (some (23, true))) (v := undef) rfl (by kernel_rfl) (by kernel_rfl) (by kernel_rfl) (fun _ _ _ h => h) (Or.inr ⟨by rfl, rfl⟩) (by assumption) ?_
                  try simp only [Act.put, List.setIfInBounds_toArray, List.set_cons_zero, List.set_cons_succ]
                  refine wpAnyH_take (i := 32) (oi := Oper.mk (some 133) (Op.binOp BinOp.eql 9 (Operand.tmp 126) (Operand.tmp 132) 9) 4 "law.go:128" #[Edge.mk 25 Ground.data, Edge.mk 31 Ground.data, Edge.mk 23 Ground.guard] (some (23, true))) (v := undef) rfl (by kernel_rfl) (by kernel_rfl) (by kernel_rfl) (fun _ _ _ h => h) (Or.inr ⟨by rfl, rfl⟩) (by assumption) ?_
                  try simp only [Act.put, List.setIfInBounds_toArray, List.set_cons_zero, List.set_cons_succ]
                  refine wpAnyH_take (i := 33) (oi := Oper.mk (some 134) (Op.pick (Operand.tmp 124) (Operand.tmp 133) (Operand.const (Value.bool false))) 4 "law.go:128" #[Edge.mk 23 Ground.data, Edge.mk 32 Ground.data] none) (v := ?_) rfl (by kernel_rfl) (by kernel_rfl) (by kernel_rfl) (fun _ _ _ h => h) (Or.inl ⟨by rfl, ?_⟩) (by assumption) ?_
                  rotate_left 1
                  · (intro w hSw; (try dsimp only at hSw); go_simp; (try with_reducible rfl))
                  try simp only [Act.put, List.setIfInBounds_toArray, List.set_cons_zero, List.set_cons_succ]
                  refine wpAnyH_done (by kernel_rfl) ?_ _
                  go_wp2_with fail
                  go_roundw
                  case rel => exact ⟨k + 1, by omega, by go_num, Lib.hid (HB03.out.trans (HB0.out.mono HB03.out.size))⟩
                  case measure => simp [intOf]; omega
              · have e3 : (za == 2) = false := by simpa using z2
                clear m1 m2 z2
                go_upto_region 21 with fail
                have SH : Hid (∀ W, Below W3.heap.size W3 W → W.cell? ⟨bp, 2, none⟩ = some (.int .i64 st) ∧ W.cell? ⟨gk, 0, none⟩ = some (.string s) ∧ W.cell? ⟨gk, 1, none⟩ = some (.int .i64 z)) := fun W hW => ⟨(KP3.out.below hW).cell 2 rfl, (K3.out.below hW).cell 0 rfl, (K3.out.below hW).cell 1 rfl⟩
                clear f0 f1 f2
                have HB0 := Lib.hid (show Below W3.heap.size W3 W3.drew from Below_drew (Below.refl _ _))
                obtain ⟨X0, hX0⟩ : ∃ X, X = W3.drew := ⟨_, rfl⟩
                refine wp_region_held_drew (S := (fun w' => w'.cell? ⟨bp, 2, none⟩ = some (.int .i64 st) ∧ w'.cell? ⟨gk, 0, none⟩ = some (.string s) ∧ w'.cell? ⟨gk, 1, none⟩ = some (.int .i64 z))) (by kernel_rfl) (SH.out _ HB0.out) (fun hH0 => ?_)
                rw [← hX0] at HB0 hH0 ⊢
                clear hX0
                refine wpAnyH_take (i := 0) (oi := Oper.mk (some 101) (Op.move (Operand.tmp 2)) 3 "law.go:128" #[] none) (v := ?_) rfl (by kernel_rfl) (by kernel_rfl) (by kernel_rfl) (fun _ _ _ h => h) (Or.inl ⟨by rfl, ?_⟩) (by assumption) ?_
                rotate_left 1
                · (intro w hSw; (try dsimp only at hSw); go_simp; (try with_reducible rfl))
                try simp only [Act.put, List.setIfInBounds_toArray, List.set_cons_zero, List.set_cons_succ]
                refine wpAnyH_take (i := 1) (oi := Oper.mk (some 102) (Op.binOp BinOp.eql 3 (Operand.tmp 101) (Operand.const (Value.int IntKind.i64 2)) 3) 4 "law.go:128" #[Edge.mk 0 Ground.data] none) (v := ?_) rfl (by kernel_rfl) (by kernel_rfl) (by kernel_rfl) (fun _ _ _ h => h) (Or.inl ⟨by rfl, ?_⟩) (by assumption) ?_
                rotate_left 1
                · (intro w hSw; (try dsimp only at hSw); go_simp; (try with_reducible rfl))
                try simp only [Act.put, List.setIfInBounds_toArray, List.set_cons_zero, List.set_cons_succ]
                refine wpAnyH_take (i := 2) (oi := Oper.mk (some 103) (Op.move (Operand.tmp 102)) 4 "law.go:128" #[Edge.mk 1 Ground.data] none) (v := ?_) rfl (by kernel_rfl) (by kernel_rfl) (by kernel_rfl) (fun _ _ _ h => h) (Or.inl ⟨by rfl, ?_⟩) (by assumption) ?_
                rotate_left 1
                · (intro w hSw; (try dsimp only at hSw); go_simp; (try with_reducible rfl))
                try simp only [Act.put, List.setIfInBounds_toArray, List.set_cons_zero, List.set_cons_succ]
                refine wpAnyH_take (i := 3) (oi := Oper.mk (some 104) (Op.fieldAddr 50 (Operand.tmp 9) 2) 0 "law.go:128" #[Edge.mk 2 Ground.guard] (some (2, true))) (v := undef) rfl (by kernel_rfl) (by kernel_rfl) (by kernel_rfl) (fun _ _ _ h => h) (Or.inr ⟨by rfl, rfl⟩) (by assumption) ?_
                try simp only [Act.put, List.setIfInBounds_toArray, List.set_cons_zero, List.set_cons_succ]
                refine wpAnyH_take (i := 4) (oi := Oper.mk (some 105) (Op.load 3 (Operand.tmp 104)) 3 "law.go:128" #[Edge.mk 3 Ground.data, Edge.mk 2 Ground.guard] (some (2, true))) (v := undef) rfl (by kernel_rfl) (by kernel_rfl) (by kernel_rfl) (fun _ _ _ h => h) (Or.inr ⟨by rfl, rfl⟩) (by assumption) ?_
                try simp only [Act.put, List.setIfInBounds_toArray, List.set_cons_zero, List.set_cons_succ]
                refine wpAnyH_take (i := 5) (oi := Oper.mk (some 106) (Op.binOp BinOp.eql 3 (Operand.tmp 105) (Operand.const (Value.int IntKind.i64 1)) 3) 4 "law.go:128" #[Edge.mk 4 Ground.data, Edge.mk 2 Ground.guard] (some (2, true))) (v := undef) rfl (by kernel_rfl) (by kernel_rfl) (by kernel_rfl) (fun _ _ _ h => h) (Or.inr ⟨by rfl, rfl⟩) (by assumption) ?_
                try simp only [Act.put, List.setIfInBounds_toArray, List.set_cons_zero, List.set_cons_succ]
                refine wpAnyH_take (i := 6) (oi := Oper.mk (some 107) (Op.pick (Operand.tmp 103) (Operand.tmp 106) (Operand.const (Value.bool false))) 4 "law.go:128" #[Edge.mk 2 Ground.data, Edge.mk 5 Ground.data] none) (v := ?_) rfl (by kernel_rfl) (by kernel_rfl) (by kernel_rfl) (fun _ _ _ h => h) (Or.inl ⟨by rfl, ?_⟩) (by assumption) ?_
                rotate_left 1
                · (intro w hSw; (try dsimp only at hSw); go_simp; (try with_reducible rfl))
                try simp only [Act.put, List.setIfInBounds_toArray, List.set_cons_zero, List.set_cons_succ]
                refine wpAnyH_take (i := 7) (oi := Oper.mk (some 108) (Op.move (Operand.tmp 107)) 4 "law.go:128" #[Edge.mk 6 Ground.data, Edge.mk 2 Ground.chain] none) (v := ?_) rfl (by kernel_rfl) (by kernel_rfl) (by kernel_rfl) (fun _ _ _ h => h) (Or.inl ⟨by rfl, ?_⟩) (by assumption) ?_
                rotate_left 1
                · (intro w hSw; (try dsimp only at hSw); go_simp; (try with_reducible rfl))
                try simp only [Act.put, List.setIfInBounds_toArray, List.set_cons_zero, List.set_cons_succ]
                refine wpAnyH_take (i := 8) (oi := Oper.mk (some 109) (Op.fieldAddr 63 (Operand.tmp 14) 1) 0 "law.go:128" #[Edge.mk 7 Ground.guard] (some (7, true))) (v := undef) rfl (by kernel_rfl) (by kernel_rfl) (by kernel_rfl) (fun _ _ _ h => h) (Or.inr ⟨by rfl, rfl⟩) (by assumption) ?_
                try simp only [Act.put, List.setIfInBounds_toArray, List.set_cons_zero, List.set_cons_succ]
                refine wpAnyH_take (i := 9) (oi := Oper.mk (some 110) (Op.load 3 (Operand.tmp 109)) 3 "law.go:128" #[Edge.mk 8 Ground.data, Edge.mk 7 Ground.guard] (some (7, true))) (v := undef) rfl (by kernel_rfl) (by kernel_rfl) (by kernel_rfl) (fun _ _ _ h => h) (Or.inr ⟨by rfl, rfl⟩) (by assumption) ?_
                try simp only [Act.put, List.setIfInBounds_toArray, List.set_cons_zero, List.set_cons_succ]
                refine wpAnyH_take (i := 10) (oi := Oper.mk (some 111) (Op.binOp BinOp.eql 3 (Operand.tmp 110) (Operand.const (Value.int IntKind.i64 5)) 3) 4 "law.go:128" #[Edge.mk 9 Ground.data, Edge.mk 7 Ground.guard] (some (7, true))) (v := undef) rfl (by kernel_rfl) (by kernel_rfl) (by kernel_rfl) (fun _ _ _ h => h) (Or.inr ⟨by rfl, rfl⟩) (by assumption) ?_
                try simp only [Act.put, List.setIfInBounds_toArray, List.set_cons_zero, List.set_cons_succ]
                refine wpAnyH_take (i := 11) (oi := Oper.mk (some 112) (Op.pick (Operand.tmp 108) (Operand.tmp 111) (Operand.const (Value.bool false))) 4 "law.go:128" #[Edge.mk 7 Ground.data, Edge.mk 10 Ground.data] none) (v := ?_) rfl (by kernel_rfl) (by kernel_rfl) (by kernel_rfl) (fun _ _ _ h => h) (Or.inl ⟨by rfl, ?_⟩) (by assumption) ?_
                rotate_left 1
                · (intro w hSw; (try dsimp only at hSw); go_simp; (try with_reducible rfl))
                try simp only [Act.put, List.setIfInBounds_toArray, List.set_cons_zero, List.set_cons_succ]
                refine wpAnyH_take (i := 12) (oi := Oper.mk (some 113) (Op.move (Operand.tmp 112)) 4 "law.go:128" #[Edge.mk 11 Ground.data, Edge.mk 7 Ground.chain] none) (v := ?_) rfl (by kernel_rfl) (by kernel_rfl) (by kernel_rfl) (fun _ _ _ h => h) (Or.inl ⟨by rfl, ?_⟩) (by assumption) ?_
                rotate_left 1
                · (intro w hSw; (try dsimp only at hSw); go_simp; (try with_reducible rfl))
                try simp only [Act.put, List.setIfInBounds_toArray, List.set_cons_zero, List.set_cons_succ]
                refine wpAnyH_take (i := 13) (oi := Oper.mk (some 114) (Op.move (Operand.tmp 13)) 3 "law.go:128" #[Edge.mk 12 Ground.guard] (some (12, true))) (v := undef) rfl (by kernel_rfl) (by kernel_rfl) (by kernel_rfl) (fun _ _ _ h => h) (Or.inr ⟨by rfl, rfl⟩) (by assumption) ?_
                try simp only [Act.put, List.setIfInBounds_toArray, List.set_cons_zero, List.set_cons_succ]
                refine wpAnyH_take (i := 14) (oi := Oper.mk (some 115) (Op.move (Operand.tmp 8)) 44 "law.go:128" #[Edge.mk 12 Ground.guard] (some (12, true))) (v := undef) rfl (by kernel_rfl) (by kernel_rfl) (by kernel_rfl) (fun _ _ _ h => h) (Or.inr ⟨by rfl, rfl⟩) (by assumption) ?_
                try simp only [Act.put, List.setIfInBounds_toArray, List.set_cons_zero, List.set_cons_succ]
                refine wpAnyH_take (i := 15) (oi := Oper.mk (some 116) (Op.call (Call.mk (Callee.builtin Builtin.len) #[Operand.tmp 115] #[44])) 3 "law.go:128" #[Edge.mk 14 Ground.data, Edge.mk 12 Ground.guard] (some (12, true))) (v := undef) rfl (by kernel_rfl) (by kernel_rfl) (by kernel_rfl) (fun _ _ _ h => h) (Or.inr ⟨by rfl, rfl⟩) (by assumption) ?_
                try simp only [Act.put, List.setIfInBounds_toArray, List.set_cons_zero, List.set_cons_succ]
                refine wpAnyH_take (i := 16) (oi := Oper.mk (some 117) (Op.binOp BinOp.lss 3 (Operand.tmp 114) (Operand.tmp 116) 3) 4 "law.go:128" #[Edge.mk 13 Ground.data, Edge.mk 15 Ground.data, Edge.mk 12 Ground.guard] (some (12, true))) (v := undef) rfl (by kernel_rfl) (by kernel_rfl) (by kernel_rfl) (fun _ _ _ h => h) (Or.inr ⟨by rfl, rfl⟩) (by assumption) ?_
                try simp only [Act.put, List.setIfInBounds_toArray, List.set_cons_zero, List.set_cons_succ]
                refine wpAnyH_take (i := 17) (oi := Oper.mk (some 118) (Op.pick (Operand.tmp 113) (Operand.tmp 117) (Operand.const (Value.bool false))) 4 "law.go:128" #[Edge.mk 12 Ground.data, Edge.mk 16 Ground.data] none) (v := ?_) rfl (by kernel_rfl) (by kernel_rfl) (by kernel_rfl) (fun _ _ _ h => h) (Or.inl ⟨by rfl, ?_⟩) (by assumption) ?_
                rotate_left 1
                · (intro w hSw; (try dsimp only at hSw); go_simp; (try with_reducible rfl))
                try simp only [Act.put, List.setIfInBounds_toArray, List.set_cons_zero, List.set_cons_succ]
                refine wpAnyH_take (i := 18) (oi := Oper.mk (some 119) (Op.move (Operand.tmp 118)) 4 "law.go:128" #[Edge.mk 17 Ground.data, Edge.mk 12 Ground.chain] none) (v := ?_) rfl (by kernel_rfl) (by kernel_rfl) (by kernel_rfl) (fun _ _ _ h => h) (Or.inl ⟨by rfl, ?_⟩) (by assumption) ?_
                rotate_left 1
                · (intro w hSw; (try dsimp only at hSw); go_simp; (try with_reducible rfl))
                try simp only [Act.put, List.setIfInBounds_toArray, List.set_cons_zero, List.set_cons_succ]
                refine wpAnyH_take (i := 19) (oi := Oper.mk (some 120) (Op.move (Operand.tmp 8)) 44 "law.go:128" #[Edge.mk 18 Ground.guard] (some (18, true))) (v := undef) rfl (by kernel_rfl) (by kernel_rfl) (by kernel_rfl) (fun _ _ _ h => h) (Or.inr ⟨by rfl, rfl⟩) (by assumption) ?_
                try simp only [Act.put, List.setIfInBounds_toArray, List.set_cons_zero, List.set_cons_succ]
                refine wpAnyH_take (i := 20) (oi := Oper.mk (some 121) (Op.call (Call.mk (Callee.value (Operand.func 32)) #[Operand.tmp 120] #[44])) 3 "law.go:128" #[Edge.mk 19 Ground.data, Edge.mk 18 Ground.chain, Edge.mk 18 Ground.guard] (some (18, true))) (v := undef) rfl (by kernel_rfl) (by kernel_rfl) (by kernel_rfl) (fun _ _ _ h => h) (Or.inr ⟨by rfl, rfl⟩) (by assumption) ?_
                try simp only [Act.put, List.setIfInBounds_toArray, List.set_cons_zero, List.set_cons_succ]
                refine wpAnyH_take (i := 21) (oi := Oper.mk (some 122) (Op.binOp BinOp.geq 3 (Operand.tmp 121) (Operand.const (Value.int IntKind.i64 0)) 3) 4 "law.go:128" #[Edge.mk 20 Ground.data, Edge.mk 18 Ground.guard] (some (18, true))) (v := undef) rfl (by kernel_rfl) (by kernel_rfl) (by kernel_rfl) (fun _ _ _ h => h) (Or.inr ⟨by rfl, rfl⟩) (by assumption) ?_
                try simp only [Act.put, List.setIfInBounds_toArray, List.set_cons_zero, List.set_cons_succ]
                refine wpAnyH_take (i := 22) (oi := Oper.mk (some 123) (Op.pick (Operand.tmp 119) (Operand.tmp 122) (Operand.const (Value.bool false))) 4 "law.go:128" #[Edge.mk 18 Ground.data, Edge.mk 21 Ground.data] none) (v := ?_) rfl (by kernel_rfl) (by kernel_rfl) (by kernel_rfl) (fun _ _ _ h => h) (Or.inl ⟨by rfl, ?_⟩) (by assumption) ?_
                rotate_left 1
                · (intro w hSw; (try dsimp only at hSw); go_simp; (try with_reducible rfl))
                try simp only [Act.put, List.setIfInBounds_toArray, List.set_cons_zero, List.set_cons_succ]
                refine wpAnyH_take (i := 23) (oi := Oper.mk (some 124) (Op.move (Operand.tmp 123)) 4 "law.go:128" #[Edge.mk 22 Ground.data, Edge.mk 20 Ground.chain] none) (v := ?_) rfl (by kernel_rfl) (by kernel_rfl) (by kernel_rfl) (fun _ _ _ h => h) (Or.inl ⟨by rfl, ?_⟩) (by assumption) ?_
                rotate_left 1
                · (intro w hSw; (try dsimp only at hSw); go_simp; (try with_reducible rfl))
                try simp only [Act.put, List.setIfInBounds_toArray, List.set_cons_zero, List.set_cons_succ]
                refine wpAnyH_take (i := 24) (oi := Oper.mk (some 125) (Op.fieldAddr 63 (Operand.tmp 14) 0) 0 "law.go:128" #[Edge.mk 23 Ground.guard] (some (23, true))) (v := undef) rfl (by kernel_rfl) (by kernel_rfl) (by kernel_rfl) (fun _ _ _ h => h) (Or.inr ⟨by rfl, rfl⟩) (by assumption) ?_
                try simp only [Act.put, List.setIfInBounds_toArray, List.set_cons_zero, List.set_cons_succ]
                refine wpAnyH_take (i := 25) (oi := Oper.mk (some 126) (Op.load 9 (Operand.tmp 125)) 9 "law.go:128" #[Edge.mk 24 Ground.data, Edge.mk 23 Ground.guard] (some (23, true))) (v := undef) rfl (by kernel_rfl) (by kernel_rfl) (by kernel_rfl) (fun _ _ _ h => h) (Or.inr ⟨by rfl, rfl⟩) (by assumption) ?_
                try simp only [Act.put, List.setIfInBounds_toArray, List.set_cons_zero, List.set_cons_succ]
                refine wpAnyH_take (i := 26) (oi := Oper.mk (some 127) (Op.move (Operand.tmp 8)) 44 "law.go:128" #[Edge.mk 23 Ground.guard] (some (23, true))) (v := undef) rfl (by kernel_rfl) (by kernel_rfl) (by kernel_rfl) (fun _ _ _ h => h) (Or.inr ⟨by rfl, rfl⟩) (by assumption) ?_
                try simp only [Act.put, List.setIfInBounds_toArray, List.set_cons_zero, List.set_cons_succ]
                refine wpAnyH_take (i := 27) (oi := Oper.mk (some 128) (Op.move (Operand.tmp 8)) 44 "law.go:128" #[Edge.mk 23 Ground.guard] (some (23, true))) (v := undef) rfl (by kernel_rfl) (by kernel_rfl) (by kernel_rfl) (fun _ _ _ h => h) (Or.inr ⟨by rfl, rfl⟩) (by assumption) ?_
                try simp only [Act.put, List.setIfInBounds_toArray, List.set_cons_zero, List.set_cons_succ]
                refine wpAnyH_take (i := 28) (oi := Oper.mk (some 129) (Op.call (Call.mk (Callee.value (Operand.func 32)) #[Operand.tmp 128] #[44])) 3 "law.go:128" #[Edge.mk 27 Ground.data, Edge.mk 23 Ground.chain, Edge.mk 23 Ground.guard] (some (23, true))) (v := undef) rfl (by kernel_rfl) (by kernel_rfl) (by kernel_rfl) (fun _ _ _ h => h) (Or.inr ⟨by rfl, rfl⟩) (by assumption) ?_
                try simp only [Act.put, List.setIfInBounds_toArray, List.set_cons_zero, List.set_cons_succ]
                refine wpAnyH_take (i := 29) (oi := Oper.mk (some 130) (Op.indexAddr 44 (Operand.tmp 127) (Operand.tmp 129)) 0 "law.go:128" #[Edge.mk 26 Ground.data, Edge.mk 28 Ground.data, Edge.mk 23 Ground.guard] (some (23, true))) (v := undef) rfl (by kernel_rfl) (by kernel_rfl) (by kernel_rfl) (fun _ _ _ h => h) (Or.inr ⟨by rfl, rfl⟩) (by assumption) ?_
                try simp only [Act.put, List.setIfInBounds_toArray, List.set_cons_zero, List.set_cons_succ]
                refine wpAnyH_take (i := 30) (oi := Oper.mk (some 131) (Op.fieldAddr 63 (Operand.tmp 130) 0) 0 "law.go:128" #[Edge.mk 29 Ground.data, Edge.mk 23 Ground.guard] (some (23, true))) (v := undef) rfl (by kernel_rfl) (by kernel_rfl) (by kernel_rfl) (fun _ _ _ h => h) (Or.inr ⟨by rfl, rfl⟩) (by assumption) ?_
                try simp only [Act.put, List.setIfInBounds_toArray, List.set_cons_zero, List.set_cons_succ]
                refine wpAnyH_take (i := 31) (oi := Oper.mk (some 132) (Op.load 9 (Operand.tmp 131)) 9 "law.go:128" #[Edge.mk 30 Ground.data, Edge.mk 23 Ground.guard] (some (23, true))) (v := undef) rfl (by kernel_rfl) (by kernel_rfl) (by kernel_rfl) (fun _ _ _ h => h) (Or.inr ⟨by rfl, rfl⟩) (by assumption) ?_
                try simp only [Act.put, List.setIfInBounds_toArray, List.set_cons_zero, List.set_cons_succ]
                refine wpAnyH_take (i := 32) (oi := Oper.mk (some 133) (Op.binOp BinOp.eql 9 (Operand.tmp 126) (Operand.tmp 132) 9) 4 "law.go:128" #[Edge.mk 25 Ground.data, Edge.mk 31 Ground.data, Edge.mk 23 Ground.guard] (some (23, true))) (v := undef) rfl (by kernel_rfl) (by kernel_rfl) (by kernel_rfl) (fun _ _ _ h => h) (Or.inr ⟨by rfl, rfl⟩) (by assumption) ?_
                try simp only [Act.put, List.setIfInBounds_toArray, List.set_cons_zero, List.set_cons_succ]
                refine wpAnyH_take (i := 33) (oi := Oper.mk (some 134) (Op.pick (Operand.tmp 124) (Operand.tmp 133) (Operand.const (Value.bool false))) 4 "law.go:128" #[Edge.mk 23 Ground.data, Edge.mk 32 Ground.data] none) (v := ?_) rfl (by kernel_rfl) (by kernel_rfl) (by kernel_rfl) (fun _ _ _ h => h) (Or.inl ⟨by rfl, ?_⟩) (by assumption) ?_
                rotate_left 1
                · (intro w hSw; (try dsimp only at hSw); go_simp; (try with_reducible rfl))
                try simp only [Act.put, List.setIfInBounds_toArray, List.set_cons_zero, List.set_cons_succ]
                refine wpAnyH_done (by kernel_rfl) ?_ _
                go_wp2_with fail
                go_roundw
                case rel => exact ⟨k + 1, by omega, by go_num, Lib.hid (HB03.out.trans (HB0.out.mono HB03.out.size))⟩
                case measure => simp [intOf]; omega
            · have e1 : (mode == 1) = false := by simpa using m1
              clear m1 m2
              go_upto_region 21 with fail
              have SH : Hid (∀ W, Below W3.heap.size W3 W → W.cell? ⟨bp, 2, none⟩ = some (.int .i64 st) ∧ W.cell? ⟨gk, 0, none⟩ = some (.string s) ∧ W.cell? ⟨gk, 1, none⟩ = some (.int .i64 z)) := fun W hW => ⟨(KP3.out.below hW).cell 2 rfl, (K3.out.below hW).cell 0 rfl, (K3.out.below hW).cell 1 rfl⟩
              clear f0 f1 f2
              have HB0 := Lib.hid (show Below W3.heap.size W3 W3.drew from Below_drew (Below.refl _ _))
              obtain ⟨X0, hX0⟩ : ∃ X, X = W3.drew := ⟨_, rfl⟩
              refine wp_region_held_drew (S := (fun w' => w'.cell? ⟨bp, 2, none⟩ = some (.int .i64 st) ∧ w'.cell? ⟨gk, 0, none⟩ = some (.string s) ∧ w'.cell? ⟨gk, 1, none⟩ = some (.int .i64 z))) (by kernel_rfl) (SH.out _ HB0.out) (fun hH0 => ?_)
              rw [← hX0] at HB0 hH0 ⊢
              clear hX0
              refine wpAnyH_take (i := 0) (oi := Oper.mk (some 101) (Op.move (Operand.tmp 2)) 3 "law.go:128" #[] none) (v := ?_) rfl (by kernel_rfl) (by kernel_rfl) (by kernel_rfl) (fun _ _ _ h => h) (Or.inl ⟨by rfl, ?_⟩) (by assumption) ?_
              rotate_left 1
              · (intro w hSw; (try dsimp only at hSw); go_simp; (try with_reducible rfl))
              try simp only [Act.put, List.setIfInBounds_toArray, List.set_cons_zero, List.set_cons_succ]
              refine wpAnyH_take (i := 1) (oi := Oper.mk (some 102) (Op.binOp BinOp.eql 3 (Operand.tmp 101) (Operand.const (Value.int IntKind.i64 2)) 3) 4 "law.go:128" #[Edge.mk 0 Ground.data] none) (v := ?_) rfl (by kernel_rfl) (by kernel_rfl) (by kernel_rfl) (fun _ _ _ h => h) (Or.inl ⟨by rfl, ?_⟩) (by assumption) ?_
              rotate_left 1
              · (intro w hSw; (try dsimp only at hSw); go_simp; (try with_reducible rfl))
              try simp only [Act.put, List.setIfInBounds_toArray, List.set_cons_zero, List.set_cons_succ]
              refine wpAnyH_take (i := 2) (oi := Oper.mk (some 103) (Op.move (Operand.tmp 102)) 4 "law.go:128" #[Edge.mk 1 Ground.data] none) (v := ?_) rfl (by kernel_rfl) (by kernel_rfl) (by kernel_rfl) (fun _ _ _ h => h) (Or.inl ⟨by rfl, ?_⟩) (by assumption) ?_
              rotate_left 1
              · (intro w hSw; (try dsimp only at hSw); go_simp; (try with_reducible rfl))
              try simp only [Act.put, List.setIfInBounds_toArray, List.set_cons_zero, List.set_cons_succ]
              refine wpAnyH_take (i := 3) (oi := Oper.mk (some 104) (Op.fieldAddr 50 (Operand.tmp 9) 2) 0 "law.go:128" #[Edge.mk 2 Ground.guard] (some (2, true))) (v := undef) rfl (by kernel_rfl) (by kernel_rfl) (by kernel_rfl) (fun _ _ _ h => h) (Or.inr ⟨by rfl, rfl⟩) (by assumption) ?_
              try simp only [Act.put, List.setIfInBounds_toArray, List.set_cons_zero, List.set_cons_succ]
              refine wpAnyH_take (i := 4) (oi := Oper.mk (some 105) (Op.load 3 (Operand.tmp 104)) 3 "law.go:128" #[Edge.mk 3 Ground.data, Edge.mk 2 Ground.guard] (some (2, true))) (v := undef) rfl (by kernel_rfl) (by kernel_rfl) (by kernel_rfl) (fun _ _ _ h => h) (Or.inr ⟨by rfl, rfl⟩) (by assumption) ?_
              try simp only [Act.put, List.setIfInBounds_toArray, List.set_cons_zero, List.set_cons_succ]
              refine wpAnyH_take (i := 5) (oi := Oper.mk (some 106) (Op.binOp BinOp.eql 3 (Operand.tmp 105) (Operand.const (Value.int IntKind.i64 1)) 3) 4 "law.go:128" #[Edge.mk 4 Ground.data, Edge.mk 2 Ground.guard] (some (2, true))) (v := undef) rfl (by kernel_rfl) (by kernel_rfl) (by kernel_rfl) (fun _ _ _ h => h) (Or.inr ⟨by rfl, rfl⟩) (by assumption) ?_
              try simp only [Act.put, List.setIfInBounds_toArray, List.set_cons_zero, List.set_cons_succ]
              refine wpAnyH_take (i := 6) (oi := Oper.mk (some 107) (Op.pick (Operand.tmp 103) (Operand.tmp 106) (Operand.const (Value.bool false))) 4 "law.go:128" #[Edge.mk 2 Ground.data, Edge.mk 5 Ground.data] none) (v := ?_) rfl (by kernel_rfl) (by kernel_rfl) (by kernel_rfl) (fun _ _ _ h => h) (Or.inl ⟨by rfl, ?_⟩) (by assumption) ?_
              rotate_left 1
              · (intro w hSw; (try dsimp only at hSw); go_simp; (try with_reducible rfl))
              try simp only [Act.put, List.setIfInBounds_toArray, List.set_cons_zero, List.set_cons_succ]
              refine wpAnyH_take (i := 7) (oi := Oper.mk (some 108) (Op.move (Operand.tmp 107)) 4 "law.go:128" #[Edge.mk 6 Ground.data, Edge.mk 2 Ground.chain] none) (v := ?_) rfl (by kernel_rfl) (by kernel_rfl) (by kernel_rfl) (fun _ _ _ h => h) (Or.inl ⟨by rfl, ?_⟩) (by assumption) ?_
              rotate_left 1
              · (intro w hSw; (try dsimp only at hSw); go_simp; (try with_reducible rfl))
              try simp only [Act.put, List.setIfInBounds_toArray, List.set_cons_zero, List.set_cons_succ]
              refine wpAnyH_take (i := 8) (oi := Oper.mk (some 109) (Op.fieldAddr 63 (Operand.tmp 14) 1) 0 "law.go:128" #[Edge.mk 7 Ground.guard] (some (7, true))) (v := undef) rfl (by kernel_rfl) (by kernel_rfl) (by kernel_rfl) (fun _ _ _ h => h) (Or.inr ⟨by rfl, rfl⟩) (by assumption) ?_
              try simp only [Act.put, List.setIfInBounds_toArray, List.set_cons_zero, List.set_cons_succ]
              refine wpAnyH_take (i := 9) (oi := Oper.mk (some 110) (Op.load 3 (Operand.tmp 109)) 3 "law.go:128" #[Edge.mk 8 Ground.data, Edge.mk 7 Ground.guard] (some (7, true))) (v := undef) rfl (by kernel_rfl) (by kernel_rfl) (by kernel_rfl) (fun _ _ _ h => h) (Or.inr ⟨by rfl, rfl⟩) (by assumption) ?_
              try simp only [Act.put, List.setIfInBounds_toArray, List.set_cons_zero, List.set_cons_succ]
              refine wpAnyH_take (i := 10) (oi := Oper.mk (some 111) (Op.binOp BinOp.eql 3 (Operand.tmp 110) (Operand.const (Value.int IntKind.i64 5)) 3) 4 "law.go:128" #[Edge.mk 9 Ground.data, Edge.mk 7 Ground.guard] (some (7, true))) (v := undef) rfl (by kernel_rfl) (by kernel_rfl) (by kernel_rfl) (fun _ _ _ h => h) (Or.inr ⟨by rfl, rfl⟩) (by assumption) ?_
              try simp only [Act.put, List.setIfInBounds_toArray, List.set_cons_zero, List.set_cons_succ]
              refine wpAnyH_take (i := 11) (oi := Oper.mk (some 112) (Op.pick (Operand.tmp 108) (Operand.tmp 111) (Operand.const (Value.bool false))) 4 "law.go:128" #[Edge.mk 7 Ground.data, Edge.mk 10 Ground.data] none) (v := ?_) rfl (by kernel_rfl) (by kernel_rfl) (by kernel_rfl) (fun _ _ _ h => h) (Or.inl ⟨by rfl, ?_⟩) (by assumption) ?_
              rotate_left 1
              · (intro w hSw; (try dsimp only at hSw); go_simp; (try with_reducible rfl))
              try simp only [Act.put, List.setIfInBounds_toArray, List.set_cons_zero, List.set_cons_succ]
              refine wpAnyH_take (i := 12) (oi := Oper.mk (some 113) (Op.move (Operand.tmp 112)) 4 "law.go:128" #[Edge.mk 11 Ground.data, Edge.mk 7 Ground.chain] none) (v := ?_) rfl (by kernel_rfl) (by kernel_rfl) (by kernel_rfl) (fun _ _ _ h => h) (Or.inl ⟨by rfl, ?_⟩) (by assumption) ?_
              rotate_left 1
              · (intro w hSw; (try dsimp only at hSw); go_simp; (try with_reducible rfl))
              try simp only [Act.put, List.setIfInBounds_toArray, List.set_cons_zero, List.set_cons_succ]
              refine wpAnyH_take (i := 13) (oi := Oper.mk (some 114) (Op.move (Operand.tmp 13)) 3 "law.go:128" #[Edge.mk 12 Ground.guard] (some (12, true))) (v := undef) rfl (by kernel_rfl) (by kernel_rfl) (by kernel_rfl) (fun _ _ _ h => h) (Or.inr ⟨by rfl, rfl⟩) (by assumption) ?_
              try simp only [Act.put, List.setIfInBounds_toArray, List.set_cons_zero, List.set_cons_succ]
              refine wpAnyH_take (i := 14) (oi := Oper.mk (some 115) (Op.move (Operand.tmp 8)) 44 "law.go:128" #[Edge.mk 12 Ground.guard] (some (12, true))) (v := undef) rfl (by kernel_rfl) (by kernel_rfl) (by kernel_rfl) (fun _ _ _ h => h) (Or.inr ⟨by rfl, rfl⟩) (by assumption) ?_
              try simp only [Act.put, List.setIfInBounds_toArray, List.set_cons_zero, List.set_cons_succ]
              refine wpAnyH_take (i := 15) (oi := Oper.mk (some 116) (Op.call (Call.mk (Callee.builtin Builtin.len) #[Operand.tmp 115] #[44])) 3 "law.go:128" #[Edge.mk 14 Ground.data, Edge.mk 12 Ground.guard] (some (12, true))) (v := undef) rfl (by kernel_rfl) (by kernel_rfl) (by kernel_rfl) (fun _ _ _ h => h) (Or.inr ⟨by rfl, rfl⟩) (by assumption) ?_
              try simp only [Act.put, List.setIfInBounds_toArray, List.set_cons_zero, List.set_cons_succ]
              refine wpAnyH_take (i := 16) (oi := Oper.mk (some 117) (Op.binOp BinOp.lss 3 (Operand.tmp 114) (Operand.tmp 116) 3) 4 "law.go:128" #[Edge.mk 13 Ground.data, Edge.mk 15 Ground.data, Edge.mk 12 Ground.guard] (some (12, true))) (v := undef) rfl (by kernel_rfl) (by kernel_rfl) (by kernel_rfl) (fun _ _ _ h => h) (Or.inr ⟨by rfl, rfl⟩) (by assumption) ?_
              try simp only [Act.put, List.setIfInBounds_toArray, List.set_cons_zero, List.set_cons_succ]
              refine wpAnyH_take (i := 17) (oi := Oper.mk (some 118) (Op.pick (Operand.tmp 113) (Operand.tmp 117) (Operand.const (Value.bool false))) 4 "law.go:128" #[Edge.mk 12 Ground.data, Edge.mk 16 Ground.data] none) (v := ?_) rfl (by kernel_rfl) (by kernel_rfl) (by kernel_rfl) (fun _ _ _ h => h) (Or.inl ⟨by rfl, ?_⟩) (by assumption) ?_
              rotate_left 1
              · (intro w hSw; (try dsimp only at hSw); go_simp; (try with_reducible rfl))
              try simp only [Act.put, List.setIfInBounds_toArray, List.set_cons_zero, List.set_cons_succ]
              refine wpAnyH_take (i := 18) (oi := Oper.mk (some 119) (Op.move (Operand.tmp 118)) 4 "law.go:128" #[Edge.mk 17 Ground.data, Edge.mk 12 Ground.chain] none) (v := ?_) rfl (by kernel_rfl) (by kernel_rfl) (by kernel_rfl) (fun _ _ _ h => h) (Or.inl ⟨by rfl, ?_⟩) (by assumption) ?_
              rotate_left 1
              · (intro w hSw; (try dsimp only at hSw); go_simp; (try with_reducible rfl))
              try simp only [Act.put, List.setIfInBounds_toArray, List.set_cons_zero, List.set_cons_succ]
              refine wpAnyH_take (i := 19) (oi := Oper.mk (some 120) (Op.move (Operand.tmp 8)) 44 "law.go:128" #[Edge.mk 18 Ground.guard] (some (18, true))) (v := undef) rfl (by kernel_rfl) (by kernel_rfl) (by kernel_rfl) (fun _ _ _ h => h) (Or.inr ⟨by rfl, rfl⟩) (by assumption) ?_
              try simp only [Act.put, List.setIfInBounds_toArray, List.set_cons_zero, List.set_cons_succ]
              refine wpAnyH_take (i := 20) (oi := Oper.mk (some 121) (Op.call (Call.mk (Callee.value (Operand.func 32)) #[Operand.tmp 120] #[44])) 3 "law.go:128" #[Edge.mk 19 Ground.data, Edge.mk 18 Ground.chain, Edge.mk 18 Ground.guard] (some (18, true))) (v := undef) rfl (by kernel_rfl) (by kernel_rfl) (by kernel_rfl) (fun _ _ _ h => h) (Or.inr ⟨by rfl, rfl⟩) (by assumption) ?_
              try simp only [Act.put, List.setIfInBounds_toArray, List.set_cons_zero, List.set_cons_succ]
              refine wpAnyH_take (i := 21) (oi := Oper.mk (some 122) (Op.binOp BinOp.geq 3 (Operand.tmp 121) (Operand.const (Value.int IntKind.i64 0)) 3) 4 "law.go:128" #[Edge.mk 20 Ground.data, Edge.mk 18 Ground.guard] (some (18, true))) (v := undef) rfl (by kernel_rfl) (by kernel_rfl) (by kernel_rfl) (fun _ _ _ h => h) (Or.inr ⟨by rfl, rfl⟩) (by assumption) ?_
              try simp only [Act.put, List.setIfInBounds_toArray, List.set_cons_zero, List.set_cons_succ]
              refine wpAnyH_take (i := 22) (oi := Oper.mk (some 123) (Op.pick (Operand.tmp 119) (Operand.tmp 122) (Operand.const (Value.bool false))) 4 "law.go:128" #[Edge.mk 18 Ground.data, Edge.mk 21 Ground.data] none) (v := ?_) rfl (by kernel_rfl) (by kernel_rfl) (by kernel_rfl) (fun _ _ _ h => h) (Or.inl ⟨by rfl, ?_⟩) (by assumption) ?_
              rotate_left 1
              · (intro w hSw; (try dsimp only at hSw); go_simp; (try with_reducible rfl))
              try simp only [Act.put, List.setIfInBounds_toArray, List.set_cons_zero, List.set_cons_succ]
              refine wpAnyH_take (i := 23) (oi := Oper.mk (some 124) (Op.move (Operand.tmp 123)) 4 "law.go:128" #[Edge.mk 22 Ground.data, Edge.mk 20 Ground.chain] none) (v := ?_) rfl (by kernel_rfl) (by kernel_rfl) (by kernel_rfl) (fun _ _ _ h => h) (Or.inl ⟨by rfl, ?_⟩) (by assumption) ?_
              rotate_left 1
              · (intro w hSw; (try dsimp only at hSw); go_simp; (try with_reducible rfl))
              try simp only [Act.put, List.setIfInBounds_toArray, List.set_cons_zero, List.set_cons_succ]
              refine wpAnyH_take (i := 24) (oi := Oper.mk (some 125) (Op.fieldAddr 63 (Operand.tmp 14) 0) 0 "law.go:128" #[Edge.mk 23 Ground.guard] (some (23, true))) (v := undef) rfl (by kernel_rfl) (by kernel_rfl) (by kernel_rfl) (fun _ _ _ h => h) (Or.inr ⟨by rfl, rfl⟩) (by assumption) ?_
              try simp only [Act.put, List.setIfInBounds_toArray, List.set_cons_zero, List.set_cons_succ]
              refine wpAnyH_take (i := 25) (oi := Oper.mk (some 126) (Op.load 9 (Operand.tmp 125)) 9 "law.go:128" #[Edge.mk 24 Ground.data, Edge.mk 23 Ground.guard] (some (23, true))) (v := undef) rfl (by kernel_rfl) (by kernel_rfl) (by kernel_rfl) (fun _ _ _ h => h) (Or.inr ⟨by rfl, rfl⟩) (by assumption) ?_
              try simp only [Act.put, List.setIfInBounds_toArray, List.set_cons_zero, List.set_cons_succ]
              refine wpAnyH_take (i := 26) (oi := Oper.mk (some 127) (Op.move (Operand.tmp 8)) 44 "law.go:128" #[Edge.mk 23 Ground.guard] (some (23, true))) (v := undef) rfl (by kernel_rfl) (by kernel_rfl) (by kernel_rfl) (fun _ _ _ h => h) (Or.inr ⟨by rfl, rfl⟩) (by assumption) ?_
              try simp only [Act.put, List.setIfInBounds_toArray, List.set_cons_zero, List.set_cons_succ]
              refine wpAnyH_take (i := 27) (oi := Oper.mk (some 128) (Op.move (Operand.tmp 8)) 44 "law.go:128" #[Edge.mk 23 Ground.guard] (some (23, true))) (v := undef) rfl (by kernel_rfl) (by kernel_rfl) (by kernel_rfl) (fun _ _ _ h => h) (Or.inr ⟨by rfl, rfl⟩) (by assumption) ?_
              try simp only [Act.put, List.setIfInBounds_toArray, List.set_cons_zero, List.set_cons_succ]
              refine wpAnyH_take (i := 28) (oi := Oper.mk (some 129) (Op.call (Call.mk (Callee.value (Operand.func 32)) #[Operand.tmp 128] #[44])) 3 "law.go:128" #[Edge.mk 27 Ground.data, Edge.mk 23 Ground.chain, Edge.mk 23 Ground.guard] (some (23, true))) (v := undef) rfl (by kernel_rfl) (by kernel_rfl) (by kernel_rfl) (fun _ _ _ h => h) (Or.inr ⟨by rfl, rfl⟩) (by assumption) ?_
              try simp only [Act.put, List.setIfInBounds_toArray, List.set_cons_zero, List.set_cons_succ]
              refine wpAnyH_take (i := 29) (oi := Oper.mk (some 130) (Op.indexAddr 44 (Operand.tmp 127) (Operand.tmp 129)) 0 "law.go:128" #[Edge.mk 26 Ground.data, Edge.mk 28 Ground.data, Edge.mk 23 Ground.guard] (some (23, true))) (v := undef) rfl (by kernel_rfl) (by kernel_rfl) (by kernel_rfl) (fun _ _ _ h => h) (Or.inr ⟨by rfl, rfl⟩) (by assumption) ?_
              try simp only [Act.put, List.setIfInBounds_toArray, List.set_cons_zero, List.set_cons_succ]
              refine wpAnyH_take (i := 30) (oi := Oper.mk (some 131) (Op.fieldAddr 63 (Operand.tmp 130) 0) 0 "law.go:128" #[Edge.mk 29 Ground.data, Edge.mk 23 Ground.guard] (some (23, true))) (v := undef) rfl (by kernel_rfl) (by kernel_rfl) (by kernel_rfl) (fun _ _ _ h => h) (Or.inr ⟨by rfl, rfl⟩) (by assumption) ?_
              try simp only [Act.put, List.setIfInBounds_toArray, List.set_cons_zero, List.set_cons_succ]
              refine wpAnyH_take (i := 31) (oi := Oper.mk (some 132) (Op.load 9 (Operand.tmp 131)) 9 "law.go:128" #[Edge.mk 30 Ground.data, Edge.mk 23 Ground.guard] (some (23, true))) (v := undef) rfl (by kernel_rfl) (by kernel_rfl) (by kernel_rfl) (fun _ _ _ h => h) (Or.inr ⟨by rfl, rfl⟩) (by assumption) ?_
              try simp only [Act.put, List.setIfInBounds_toArray, List.set_cons_zero, List.set_cons_succ]
              refine wpAnyH_take (i := 32) (oi := Oper.mk (some 133) (Op.binOp BinOp.eql 9 (Operand.tmp 126) (Operand.tmp 132) 9) 4 "law.go:128" #[Edge.mk 25 Ground.data, Edge.mk 31 Ground.data, Edge.mk 23 Ground.guard] (some (23, true))) (v := undef) rfl (by kernel_rfl) (by kernel_rfl) (by kernel_rfl) (fun _ _ _ h => h) (Or.inr ⟨by rfl, rfl⟩) (by assumption) ?_
              try simp only [Act.put, List.setIfInBounds_toArray, List.set_cons_zero, List.set_cons_succ]
              refine wpAnyH_take (i := 33) (oi := Oper.mk (some 134) (Op.pick (Operand.tmp 124) (Operand.tmp 133) (Operand.const (Value.bool false))) 4 "law.go:128" #[Edge.mk 23 Ground.data, Edge.mk 32 Ground.data] none) (v := ?_) rfl (by kernel_rfl) (by kernel_rfl) (by kernel_rfl) (fun _ _ _ h => h) (Or.inl ⟨by rfl, ?_⟩) (by assumption) ?_
              rotate_left 1
              · (intro w hSw; (try dsimp only at hSw); go_simp; (try with_reducible rfl))
              try simp only [Act.put, List.setIfInBounds_toArray, List.set_cons_zero, List.set_cons_succ]
              refine wpAnyH_done (by kernel_rfl) ?_ _
              go_wp2_with fail
              go_roundw
              case rel => exact ⟨k + 1, by omega, by go_num, Lib.hid (HB03.out.trans (HB0.out.mono HB03.out.size))⟩
              case measure => simp [intOf]; omega
        · obtain rfl : M = k := by omega
          go_wp2
          go_ret
          exact ⟨rfl, HB8.out.trans (hbel.out.mono HB8.out.size)⟩
  · rw [decide_eq_false hr]
    clear hr HF
    have k2 := KP6.out.cell 2 (v := .int .i64 st) rfl
    by_cases h0 : st = 0
    · have e0 : (st == 0) = true := by simpa using h0
      clear h0
      go_wp2
      go_ret
      exact ⟨rfl, HB6.out⟩
    · have e0 : (st == 0) = false := by simpa using h0
      have hkm : kq.toList.isEmpty = false := str_ne (HSK.out h0)
      clear h0
      go_wp2
      go_ret
      exact ⟨rfl, HB6.out⟩
end Go.Proofs.Ytfapghekakdpgaa
