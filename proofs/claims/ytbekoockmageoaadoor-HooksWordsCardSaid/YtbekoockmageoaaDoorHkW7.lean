/- HooksWords: the walk. -/
import Derived.Test.YtbekoockmageoaaDoorHkW6
import Derived.Test.YtbekoockmageoaaDoorHkMath2
import Derived.Deep.DeepCutAuto
namespace Go.Proofs.YtbekoockmageoaaDoor
open Go.RowKit Hk
set_option linter.unusedVariables false
/-- the block of counts -/
def CntIs (w : World) (b : Nat) (n : Int → Int) : Prop := b < w.heap.size ∧ ∀ i : Nat, i < 9 → w.cell? ⟨b, i, none⟩ = some (.int .i64 (n i)) ∧ w.frozen? ⟨b, i, none⟩ = false
theorem CntIs.inc {w : World} {b : Nat} {n : Int → Int} (h : CntIs w b n) (x : Nat) (hx : x < 9) : CntIs (w.setCell ⟨b, x, none⟩ (.int .i64 (n x + 1))) b (up n x) := by
  have hc := (h.2 x hx).1
  have hz := (h.2 x hx).2
  refine ⟨by simpa using h.1, fun i hi => ?_⟩
  have hci := (h.2 i hi).1
  have hzi := (h.2 i hi).2
  by_cases e : i = x
  · subst e
    refine ⟨?_, by go_simp⟩
    have : up n (i : Int) (i : Int) = n i + 1 := by unfold up; rw [if_pos rfl]
    rw [this]
    go_simp
  · have : up n (x : Int) (i : Int) = n i := by unfold up; rw [if_neg (by omega)]
    rw [this]
    refine ⟨?_, by go_simp⟩
    have e' : ¬ x = i := fun h => e h.symm
    go_simp
theorem bits7 (x : Int) (h1 : 1 ≤ x) (h2 : x ≤ 8) : ∃ p q : Nat, bits .and .i64 x 7 = (p : Int) ∧ bits .and .i64 x 8 = (q : Int) ∧ (p + q : Int) = x := by
  have h8 : x = 1 ∨ x = 2 ∨ x = 3 ∨ x = 4 ∨ x = 5 ∨ x = 6 ∨ x = 7 ∨ x = 8 := by omega
  rcases h8 with rfl | rfl | rfl | rfl | rfl | rfl | rfl | rfl
  · exact ⟨1, 0, by decide, by decide, by decide⟩
  · exact ⟨2, 0, by decide, by decide, by decide⟩
  · exact ⟨3, 0, by decide, by decide, by decide⟩
  · exact ⟨4, 0, by decide, by decide, by decide⟩
  · exact ⟨5, 0, by decide, by decide, by decide⟩
  · exact ⟨6, 0, by decide, by decide, by decide⟩
  · exact ⟨7, 0, by decide, by decide, by decide⟩
  · exact ⟨0, 8, by decide, by decide, by decide⟩
set_option maxHeartbeats 1000000 in
set_option maxRecDepth 100000 in
theorem words_neg (A : Option Addr) (m c : Nat) (l : List Int) (w : World) (hm0 : m = l.length) (hb : m ≤ 60) (ha : At w A (iv l)) (ht : TrIs w) (hneg : run 0 l < 0) :
    Calls Tryd.prog 13 #[.slice A m c] w fun e w' => ∃ t : Int, e = .returned (.int .i64 t) ∧ t < 0 ∧ Below w.heap.size w w' :=
  (run_any A m c l w hm0 (by unfold maxLen; omega) ha ht).mono fun e w' ⟨h1, h2⟩ => ⟨_, h1, hneg, h2⟩
set_option maxHeartbeats 2000000 in
set_option maxRecDepth 100000 in
/-- behind the cut to sixty -/
theorem hooksWords_some (a : Addr) (n c : Nat) (l : List Int) (w : World) (hn : n = l.length) (hb : n ≤ maxLen) (hc : n ≤ c) (hc2 : c ≤ maxLen) (ha : At w (some a) (iv l)) (ht : TrIs w) (hm : NmIs w) :
    Calls Tryd.prog 6 #[.slice (some a) n c] w fun e w' => e = .returned (.bool true) ∧ Below w.heap.size w w' := by
  have HT := Lib.hid ht
  have HM := Lib.hid hm
  have HL := Lib.hid (show At w (some a) (iv (l.take 60)) from by rw [iv_take]; exact ha.take 60)
  have HLT : Hid ((l.take 60).length = min n 60) := by show _ = _; rw [List.length_take, ← hn]; omega
  have hmin : (min (n : Int) 60) = ((min n 60 : Nat) : Int) := by omega
  unfold maxLen at hb hc2
  clear ht hm ha hn
  generalize l.take 60 = p at HL HLT
  have h60 : min n 60 ≤ 60 := Nat.min_le_right _ _
  generalize hmm : min n 60 = m at hmin HLT h60
  have hmn : m ≤ n := by omega
  clear hmm
  by_cases hr : run 0 p < 0
  · have HR := Lib.hid hr
    clear hr
    go_enter Tryd.func6, Tryd.ntmps6
    go_wp2_with fail
    (with_reducible refine (awake_any _ HT.out HM.out).mono ?_)
    rintro e w1 ⟨rfl, hb1⟩
    have HB1 := Lib.hid hb1
    clear hb1
    go_wp2_with fail
    (with_reducible refine (run_any _ _ _ p _ HLT.out.symm (by unfold maxLen; omega) (HL.out.below HB1.out) (HT.out.below HB1.out)).mono ?_)
    rintro e w2 ⟨rfl, hb2⟩
    have HB2 := Lib.hid (HB1.out.trans (hb2.mono HB1.out.size))
    clear hb2
    have hr := HR.out
    generalize hrr : run 0 p = r at hr
    have HRR := Lib.hid hrr
    clear hrr
    go_wp2_with fail
    (with_reducible refine (rrun_any _ _ _ p _ HLT.out.symm (by unfold maxLen; omega) (HL.out.below HB2.out)).mono ?_)
    rintro e w3 ⟨rfl, hb3⟩
    have HB3 := Lib.hid (HB2.out.trans (hb3.mono HB2.out.size))
    clear hb3
    rw [HRR.out]
    go_wp2
    go_ret
    exact ⟨rfl, HB3.out⟩
  · have HR := Lib.hid (show 0 ≤ run 0 p by omega)
    clear hr
    go_enter Tryd.func6, Tryd.ntmps6
    go_wp2_with fail
    (with_reducible refine (awake_any _ HT.out HM.out).mono ?_)
    rintro e w1 ⟨rfl, hb1⟩
    have HB1 := Lib.hid hb1
    clear hb1
    go_wp2_with fail
    (with_reducible refine (run_any _ _ _ p _ HLT.out.symm (by unfold maxLen; omega) (HL.out.below HB1.out) (HT.out.below HB1.out)).mono ?_)
    rintro e w2 ⟨rfl, hb2⟩
    have HB2 := Lib.hid (HB1.out.trans (hb2.mono HB1.out.size))
    clear hb2
    have hr := HR.out
    generalize run 0 p = r at hr
    go_wp2
    have HB3 : Hid (Below w.heap.size w (w2.alloc (.cells #[.int .i64 0, .int .i64 0, .int .i64 0, .int .i64 0, .int .i64 0, .int .i64 0, .int .i64 0, .int .i64 0, .int .i64 0] 43))) := Lib.hid (HB2.out.alloc HB2.out.size _)
    have HC3 : Hid (CntIs (w2.alloc (.cells #[.int .i64 0, .int .i64 0, .int .i64 0, .int .i64 0, .int .i64 0, .int .i64 0, .int .i64 0, .int .i64 0, .int .i64 0] 43)) w2.heap.size (cnt (p.take 0))) := by
      refine Lib.hid ⟨by simp, fun i hi => ?_⟩
      have h9 : i = 0 ∨ i = 1 ∨ i = 2 ∨ i = 3 ∨ i = 4 ∨ i = 5 ∨ i = 6 ∨ i = 7 ∨ i = 8 := by omega
      rcases h9 with rfl | rfl | rfl | rfl | rfl | rfl | rfl | rfl | rfl <;> exact ⟨by simp [cnt], by simp⟩
    have hsB := HB2.out.size
    clear hr
    generalize w2.alloc (.cells #[.int .i64 0, .int .i64 0, .int .i64 0, .int .i64 0, .int .i64 0, .int .i64 0, .int .i64 0, .int .i64 0, .int .i64 0] 43) = W3 at HB3 HC3 ⊢
    generalize w2.heap.size = B at HC3 hsB ⊢
    go_loopw [24] (fun i wr => ∃ k : Nat, k ≤ m ∧ i = .int .i64 k ∧ Hid (CntIs wr B (cnt (p.take k))) ∧ Hid (Below w.heap.size w wr)) (fun i _ => m - (intOf i).toNat)
    case atStart => exact ⟨0, Nat.zero_le _, rfl, HC3, HB3⟩
    case round =>
      obtain ⟨k, hk, rfl, HC, HB⟩ := hrel
      by_cases hlt : k < m
      · have hk1 : k < p.length := by have := HLT.out; omega
        obtain ⟨b1, o1, e1, hb1, hc1⟩ := HL.out.one (iv_at p k hk1)
        injection e1 with e1
        subst e1
        have hx0 := (below_cells HB.out).1 b1 (o1 + k) hb1
        rw [hc1] at hx0
        have HW := Lib.hid (way_next p k HR.out (ats p k) (take_ats p k hk1))
        generalize ats p k = x at hx0 HW
        have hx1 := HW.out.1
        have hx8 := HW.out.2.1
        obtain ⟨P, Q, hp, hq, hpq⟩ := bits7 x hx1 hx8
        have hPQ : P + Q < 9 := by omega
        have hcx := (HC.out.2 (P + Q) hPQ).1
        have hzx := (HC.out.2 (P + Q) hPQ).2
        have HI := Lib.hid (HC.out.inc (P + Q) hPQ)
        have exq : ((P + Q : Nat) : Int) = x := by omega
        rw [exq] at hcx HI
        have hv := cnt_le (p.take k) x
        have hl6 : (p.take k).length ≤ k := List.length_take_le _ _
        obtain ⟨v, hvv⟩ : ∃ v, v = cnt (p.take k) x := ⟨_, rfl⟩
        rw [← hvv] at hcx HI hv
        have HC' : Hid (CntIs (wr.setCell ⟨B, P + Q, none⟩ (.int .i64 (v + 1))) B (cnt (p.take (k + 1)))) := by
          have h1 := HI.out
          rw [HW.out.2.2.1]
          exact h1
        have HB' : Hid (Below w.heap.size w (wr.setCell ⟨B, P + Q, none⟩ (.int .i64 (v + 1)))) := Lib.hid (HB.out.setCell (by omega) _)
        have hb60 : 0 ≤ v ∧ v ≤ 60 := by omega
        have HOK := Lib.hid HW.out.2.2.2
        have HCB := Lib.hid (fun i => cnt_le (p.take (k + 1)) i)
        have HL6 := Lib.hid (List.length_take_le (k + 1) p)
        have hpq' : (P : Int) + (Q : Int) ≤ 8 := by omega
        have HEX := Lib.hid exq
        have HPQ := Lib.hid hpq
        have HVV := Lib.hid hvv
        clear hc1 hpq exq hvv hv HI hx1 hx8
        go_upto_region 11 with fail
        clear hp hq hcx hzx hx0 hb60 hPQ hpq' hl6
        generalize wr.setCell ⟨B, P + Q, none⟩ (.int .i64 (v + 1)) = W at HC' HB' ⊢
        have g1 := (HC'.out.2 1 (by omega)).1
        have q1 := HCB.out 1
        have g2 := (HC'.out.2 2 (by omega)).1
        have q2 := HCB.out 2
        have g3 := (HC'.out.2 3 (by omega)).1
        have q3 := HCB.out 3
        have g4 := (HC'.out.2 4 (by omega)).1
        have q4 := HCB.out 4
        have g5 := (HC'.out.2 5 (by omega)).1
        have q5 := HCB.out 5
        have g6 := (HC'.out.2 6 (by omega)).1
        have q6 := HCB.out 6
        have g7 := (HC'.out.2 7 (by omega)).1
        have q7 := HCB.out 7
        have g8 := (HC'.out.2 8 (by omega)).1
        have q8 := HCB.out 8
        have hok := HOK.out
        have hl7 := HL6.out
        have hq15 : ((p.take (k + 1)).length : Int) ≤ 61 := by omega
        have b1 := Int.le_trans q1.2 hq15
        replace q1 := q1.1
        have b2 := Int.le_trans q2.2 hq15
        replace q2 := q2.1
        have b3 := Int.le_trans q3.2 hq15
        replace q3 := q3.1
        have b4 := Int.le_trans q4.2 hq15
        replace q4 := q4.1
        have b5 := Int.le_trans q5.2 hq15
        replace q5 := q5.1
        have b6 := Int.le_trans q6.2 hq15
        replace q6 := q6.1
        have b7 := Int.le_trans q7.2 hq15
        replace q7 := q7.1
        have b8 := Int.le_trans q8.2 hq15
        replace q8 := q8.1
        have HC5 := Lib.hid HC'.out
        clear HC' hl7 hq15
        rw [show ((1 : Nat) : Int) = 1 from rfl] at g1
        rw [show ((2 : Nat) : Int) = 2 from rfl] at g2
        rw [show ((3 : Nat) : Int) = 3 from rfl] at g3
        rw [show ((4 : Nat) : Int) = 4 from rfl] at g4
        rw [show ((5 : Nat) : Int) = 5 from rfl] at g5
        rw [show ((6 : Nat) : Int) = 6 from rfl] at g6
        rw [show ((7 : Nat) : Int) = 7 from rfl] at g7
        rw [show ((8 : Nat) : Int) = 8 from rfl] at g8
        have HB5 := HB'
        clear HB' HOK HCB HW
        obtain ⟨m1, hm1⟩ : ∃ y, y = cnt (p.take (k + 1)) 1 := ⟨_, rfl⟩
        obtain ⟨m2, hm2⟩ : ∃ y, y = cnt (p.take (k + 1)) 2 := ⟨_, rfl⟩
        obtain ⟨m3, hm3⟩ : ∃ y, y = cnt (p.take (k + 1)) 3 := ⟨_, rfl⟩
        obtain ⟨m4, hm4⟩ : ∃ y, y = cnt (p.take (k + 1)) 4 := ⟨_, rfl⟩
        obtain ⟨m5, hm5⟩ : ∃ y, y = cnt (p.take (k + 1)) 5 := ⟨_, rfl⟩
        obtain ⟨m6, hm6⟩ : ∃ y, y = cnt (p.take (k + 1)) 6 := ⟨_, rfl⟩
        obtain ⟨m7, hm7⟩ : ∃ y, y = cnt (p.take (k + 1)) 7 := ⟨_, rfl⟩
        obtain ⟨m8, hm8⟩ : ∃ y, y = cnt (p.take (k + 1)) 8 := ⟨_, rfl⟩
        rw [← hm1] at g1 q1 b1 hok
        rw [← hm2] at g2 q2 b2 hok
        rw [← hm3] at g3 q3 b3 hok
        rw [← hm4] at g4 q4 b4 hok
        rw [← hm5] at g5 q5 b5 hok
        rw [← hm6] at g6 q6 b6 hok
        rw [← hm7] at g7 q7 b7 hok
        rw [← hm8] at g8 q8 b8 hok
        have HM1 := Lib.hid hm1
        clear hm1
        have HM2 := Lib.hid hm2
        clear hm2
        have HM3 := Lib.hid hm3
        clear hm3
        have HM4 := Lib.hid hm4
        clear hm4
        have HM5 := Lib.hid hm5
        clear hm5
        have HM6 := Lib.hid hm6
        clear hm6
        have HM7 := Lib.hid hm7
        clear hm7
        have HM8 := Lib.hid hm8
        clear hm8
        obtain ⟨k1, k2, k3, k4, k5, k6⟩ := hok
        have t1 : decide (m1 < m2) = false := by rw [decide_eq_false_iff_not]; omega
        have t2 : decide (m2 < m3 + m4) = false := by rw [decide_eq_false_iff_not]; omega
        have t3 : decide (m5 < m6) = false := by rw [decide_eq_false_iff_not]; omega
        have t4 : decide (m6 < m7 + m8) = false := by rw [decide_eq_false_iff_not]; omega
        have t5 : decide (m7 + m8 + 1 < m1) = false := by rw [decide_eq_false_iff_not]; omega
        have t6 : decide (m3 + m4 + 1 < m5) = false := by rw [decide_eq_false_iff_not]; omega
        clear t1 t2 t3 t4 t5 t6
        go_quiet (fail)
        go_wp2
        go_roundw
        case rel => exact ⟨k + 1, by omega, by go_num, by show Hid _; first | exact HC5 | exact Lib.hid HC5.out, Lib.hid ⟨HB5.out.os, HB5.out.tape, HB5.out.output, HB5.out.size, HB5.out.block⟩⟩
        case measure => simp [intOf]; omega
      · obtain rfl : k = m := by omega
        go_wp2
        go_ret
        exact ⟨rfl, HB.out⟩
theorem hooksWords_any (A : Option Addr) (n c : Nat) (l : List Int) (w : World) (hn : n = l.length) (hb : n ≤ maxLen) (hc : n ≤ c) (hc2 : c ≤ maxLen) (hA : A = none → n = 0 ∧ c = 0) (ha : At w A (iv l)) (ht : TrIs w) (hm : NmIs w) :
    Calls Tryd.prog 6 #[.slice A n c] w fun e w' => e = .returned (.bool true) ∧ Below w.heap.size w w' := by
  cases A with
  | none =>
    obtain ⟨rfl, rfl⟩ := hA rfl
    have HT := Lib.hid ht
    have HM := Lib.hid hm
    clear hA ht hm ha hn hb hc hc2
    have h060 : (min (0 : Int) 60) = 0 := by decide
    go_enter Tryd.func6, Tryd.ntmps6
    go_wp2_with fail
    (with_reducible refine (awake_any _ HT.out HM.out).mono ?_)
    rintro e w1 ⟨rfl, hb1⟩
    have HB1 := Lib.hid hb1
    clear hb1
    go_wp2_with fail
    (with_reducible refine (run_any none 0 0 [] _ rfl (by unfold maxLen; omega) (At.nil _ _) (HT.out.below HB1.out)).mono ?_)
    rintro e w2 ⟨rfl, hb2⟩
    rw [show run 0 [] = 0 from rfl]
    have HB2 := Lib.hid (HB1.out.trans (hb2.mono HB1.out.size))
    clear hb2
    go_wp2
    have HB3 : Hid (Below w.heap.size w (w2.alloc (.cells #[.int .i64 0, .int .i64 0, .int .i64 0, .int .i64 0, .int .i64 0, .int .i64 0, .int .i64 0, .int .i64 0, .int .i64 0] 43))) := Lib.hid (HB2.out.alloc HB2.out.size _)
    generalize w2.alloc (.cells #[.int .i64 0, .int .i64 0, .int .i64 0, .int .i64 0, .int .i64 0, .int .i64 0, .int .i64 0, .int .i64 0, .int .i64 0] 43) = W3 at HB3 ⊢
    go_loopw [24] (fun i wr => ∃ z : Int, i = .int .i64 z ∧ z = 0 ∧ Hid (Below w.heap.size w wr)) (fun i _ => 0)
    case atStart => exact ⟨0, rfl, rfl, HB3⟩
    case round =>
      obtain ⟨z, rfl, rfl, HB⟩ := hrel
      go_wp2
      go_ret
      exact ⟨rfl, HB.out⟩
  | some a => exact hooksWords_some a n c l w hn hb hc hc2 ha ht hm
end Go.Proofs.YtbekoockmageoaaDoor
