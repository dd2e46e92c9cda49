/- The fixed facts of hooks; HooksNext, HooksRun. -/
import Derived.Test.YtbekoockmageoaaDoorHkW4
import Derived.Test.YtbekoockmageoaaDoorHkW5
namespace Go.Proofs.YtbekoockmageoaaDoor
open Go.RowKit Hk
set_option maxHeartbeats 1000000 in
set_option maxRecDepth 100000 in
theorem awake_any (w : World) (ht : TrIs w) (hm : NmIs w) : Calls Tryd.prog 8 #[] w fun e w' => e = .returned (.bool true) ∧ Below w.heap.size w w' := by
  have HT := Lib.hid ht
  have HM := Lib.hid hm
  clear ht hm
  go_enter Tryd.func8, Tryd.ntmps8
  go_wp2_with fail
  (with_reducible refine (run_any _ 4 4 [1, 2, 4, 5] _ rfl (by unfold maxLen; omega) (at_new _ #[.int .i64 1, .int .i64 2, .int .i64 4, .int .i64 5] 3 _ rfl _ rfl) (HT.out.below (below_alloc _ _))).mono ?_)
  rintro e w1 ⟨rfl, hb1⟩
  rw [show run 0 [1, 2, 4, 5] = 4 by decide]
  have HB1 := Lib.hid ((below_alloc w _).trans (hb1.mono (by simp)))
  clear hb1
  go_wp2_with fail
  (with_reducible refine (run_any _ 1 1 [2] _ rfl (by unfold maxLen; omega) (at_new _ #[.int .i64 2] 3 _ rfl _ rfl) (HT.out.below (HB1.out.trans ((below_alloc w1 _).mono HB1.out.size)))).mono ?_)
  rintro e w2 ⟨rfl, hb2⟩
  rw [show run 0 [2] = -1 by decide]
  have HB2 := Lib.hid (HB1.out.trans (((below_alloc w1 _).trans (hb2.mono (by simp))).mono HB1.out.size))
  clear hb2
  go_wp2_with fail
  (with_reducible refine (name_any _ _ (HM.out.below HB2.out)).mono ?_)
  rintro e w3 ⟨rfl, rfl⟩
  rw [show nameB 8 = ⟨#[108, 101, 97, 118, 101, 45, 99, 97, 110, 99, 101, 108, 108, 101, 100]⟩ from rfl]
  go_wp2
  go_ret
  exact ⟨rfl, HB2.out⟩
set_option maxHeartbeats 1000000 in
set_option maxRecDepth 100000 in
theorem hooksNext_any (s h : Int) (w : World) (ht : TrIs w) (hm : NmIs w) : Calls Tryd.prog 3 #[.int .i64 s, .int .i64 h] w fun e w' => e = .returned (.bool true) ∧ Below w.heap.size w w' := by
  have HT := Lib.hid ht
  have HM := Lib.hid hm
  clear ht hm
  go_enter Tryd.func3, Tryd.ntmps3
  go_wp2_with fail
  (with_reducible refine (awake_any _ HT.out HM.out).mono ?_)
  rintro e w1 ⟨rfl, hb1⟩
  have HB1 := Lib.hid hb1
  clear hb1
  go_wp2_with fail
  (with_reducible refine (next_any _ _ _ (HT.out.below HB1.out)).mono ?_)
  rintro e w2 ⟨rfl, hb2⟩
  have HB2 := Lib.hid (HB1.out.trans (hb2.mono HB1.out.size))
  clear hb2
  go_wp2_with fail
  (with_reducible refine (rnext_any _ _ _).mono ?_)
  rintro e w3 ⟨rfl, hb3⟩
  have HB3 := Lib.hid (HB2.out.trans (hb3.mono HB2.out.size))
  clear hb3
  generalize nx s h = t
  go_wp2_with fail
  (with_reducible refine (name_any _ _ (HM.out.below HB3.out)).mono ?_)
  rintro e w4 ⟨rfl, rfl⟩
  go_wp2_with fail
  (with_reducible refine (rname_any _ _).mono ?_)
  rintro e w5 ⟨rfl, rfl⟩
  generalize nameB h = u
  go_wp2
  go_ret
  exact ⟨rfl, HB3.out⟩
set_option maxHeartbeats 1000000 in
set_option maxRecDepth 100000 in
theorem hooksRun_any (A : Option Addr) (n c : Nat) (l : List Int) (w : World) (hn : n = l.length) (hb : n ≤ maxLen) (hc : n ≤ c) (hc2 : c ≤ maxLen) (hA : A = none → n = 0 ∧ c = 0) (ha : At w A (iv l)) (ht : TrIs w) (hm : NmIs w) :
    Calls Tryd.prog 4 #[.slice A n c] w fun e w' => e = .returned (.bool true) ∧ Below w.heap.size w w' := by
  have HT := Lib.hid ht
  have HM := Lib.hid hm
  have HL := Lib.hid ha
  have HN := Lib.hid hn
  have HLT : Hid ((l.take 60).length = min n 60) := by show _ = _; rw [List.length_take, ← hn]; omega
  unfold maxLen at hb hc2
  clear ht hm ha hn
  cases A with
  | none =>
    obtain ⟨rfl, rfl⟩ := hA rfl
    clear hA
    have h060 : (min (0 : Int) 60) = 0 := by decide
    go_enter Tryd.func4, Tryd.ntmps4
    go_wp2_with fail
    (with_reducible refine (awake_any _ HT.out HM.out).mono ?_)
    rintro e w1 ⟨rfl, hb1⟩
    have HB1 := Lib.hid hb1
    clear hb1
    go_wp2_with fail
    (with_reducible refine (run_any none 0 0 [] _ rfl (by unfold maxLen; omega) (At.nil _ _) (HT.out.below HB1.out)).mono ?_)
    rintro e w2 ⟨rfl, hb2⟩
    have HB2 := Lib.hid (HB1.out.trans (hb2.mono HB1.out.size))
    clear hb2
    go_wp2_with fail
    (with_reducible refine (rrun_any none 0 0 [] _ rfl (by unfold maxLen; omega) (At.nil _ _)).mono ?_)
    rintro e w3 ⟨rfl, hb3⟩
    have HB3 := Lib.hid (HB2.out.trans (hb3.mono HB2.out.size))
    clear hb3
    generalize run 0 [] = t
    go_wp2
    go_ret
    exact ⟨rfl, HB3.out⟩
  | some a =>
    clear hA
    have hmin : (min (n : Int) 60) = ((min n 60 : Nat) : Int) := by omega
    go_enter Tryd.func4, Tryd.ntmps4
    go_wp2_with fail
    (with_reducible refine (awake_any _ HT.out HM.out).mono ?_)
    rintro e w1 ⟨rfl, hb1⟩
    have HB1 := Lib.hid hb1
    clear hb1
    go_wp2_with fail
    (with_reducible refine (run_any _ _ _ (l.take 60) _ HLT.out.symm (by unfold maxLen; omega) (by rw [iv_take]; exact (HL.out.below HB1.out).take 60) (HT.out.below HB1.out)).mono ?_)
    rintro e w2 ⟨rfl, hb2⟩
    have HB2 := Lib.hid (HB1.out.trans (hb2.mono HB1.out.size))
    clear hb2
    go_wp2_with fail
    (with_reducible refine (rrun_any _ _ _ (l.take 60) _ HLT.out.symm (by unfold maxLen; omega) (by rw [iv_take]; exact (HL.out.below HB2.out).take 60)).mono ?_)
    rintro e w3 ⟨rfl, hb3⟩
    have HB3 := Lib.hid (HB2.out.trans (hb3.mono HB2.out.size))
    clear hb3
    generalize run 0 (l.take 60) = t
    go_wp2
    go_ret
    exact ⟨rfl, HB3.out⟩
end Go.Proofs.YtbekoockmageoaaDoor
