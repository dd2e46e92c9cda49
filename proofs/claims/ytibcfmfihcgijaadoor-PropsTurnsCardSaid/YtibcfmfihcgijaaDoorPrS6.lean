/- Contracts of layer 4's fixed facts: a map of three pairs, and the map of no texts. -/
import Derived.Test.YtibcfmfihcgijaaDoorPrS3
import Derived.Test.YtibcfmfihcgijaaDoorStPS3
namespace Go.Proofs.YtibcfmfihcgijaaDoor
open Go.RowKit M
theorem get_any (A : Option Addr) (n c : Nat) (l : List Par) (t : ByteArray) (w : World) (hn : n = l.length) (hb : n ≤ 100000) (hA0 : A = none → n = 0 ∧ c = 0) (ha : At w A (pv l)) :
    Calls Tryd.prog 11 #[.slice A n c, .string t] w fun e w' =>
      (∃ z, getP l t = some z ∧ e = .returned (.tuple #[.int .i64 z, .bool true]) ∧ RowKit.Below w.heap.size w w') ∨ (getP l t = none ∧ e = .returned (.tuple #[.int .i64 0, .bool false]) ∧ RowKit.Below w.heap.size w w') := by
  have H := Lib.hid (of_any A n c l w hn hb hA0 ha)
  have hml := ofP_len l
  rw [← hn] at hml
  have HRI := Lib.hid (ofP_rises l)
  have HG := Lib.hid (fun x => ofP_get l x)
  clear hn hA0 ha
  generalize ofP l = R at H hml HRI HG
  go_enter Tryd.func11, Tryd.ntmps11
  go_wp2_with fail
  refine H.out.mono ?_
  rintro e w1 ⟨v, rfl, hown, hbel⟩
  obtain ⟨A1, c1, rfl, _, _, hat⟩ := at_of_own' hown
  have HAT := Lib.hid hat
  have HB := Lib.hid hbel
  clear hown hat hbel H
  go_wp2_with fail
  refine (find_map A1 _ c1 R t w1 rfl (by omega) HRI.out HAT.out).mono ?_
  rintro e w2 (⟨z, hz, rfl, hb2⟩ | ⟨hz, rfl, hb2⟩)
  · have HZ := Lib.hid hz
    have HB2 := Lib.hid (HB.out.trans (hb2.mono HB.out.size))
    clear hz hb2
    go_wp2
    go_ret2
    exact .inl ⟨z, by rw [← HG.out]; exact HZ.out, rfl, HB2.out⟩
  · have HZ := Lib.hid hz
    have HB2 := Lib.hid (HB.out.trans (hb2.mono HB.out.size))
    clear hz hb2
    go_wp2
    go_ret2
    exact .inr ⟨by rw [← HG.out]; exact HZ.out, rfl, HB2.out⟩
theorem cloneS_nil (w : World) :
    Calls Tryd.prog 67 #[.slice none 0 0] w fun e w' => e = .returned (.slice none 0 0) ∧ w' = w := by
  have q22 : ∀ (w : World) (a : Option Addr) (n c n' c' : Nat), (binOp .eql 29 (.slice a n c) (.slice none n' c')).run Tryd.prog w = .ok (.bool a.isNone) w := fun w a n c n' c' => Lib.run_eql_slice_nil w _ _ a n c n' c' Tryd.underlying29
  go_enter Tryd.func67, Tryd.ntmps67
  go_wp2
  go_ret
  exact ⟨rfl, rfl⟩
set_option maxHeartbeats 2000000 in
set_option maxRecDepth 100000 in
theorem latestS_nil (w : World) :
    Calls Tryd.prog 38 #[.slice none 0 0, .func (.func 39) #[] #[]] w fun e w' => e = .returned (.slice none 0 0) ∧ RowKit.Below w.heap.size w w' := by
  go_enter Tryd.func38, Tryd.ntmps38
  go_wp2_with (first | (go_at_call 67; refine (cloneS_nil _).mono ?_; rintro e w1 ⟨rfl, rfl⟩) | (go_at_call 68; refine (St.PS.sorts_none none 0 _ _).mono ?_; rintro e w2 ⟨rfl, rfl⟩))
  refine wp_loop_rounds 1 ?_
  rw [rounds_succ]
  go_wp2
  go_ret
  exact ⟨rfl, below_alloc _ _⟩
theorem ofS_nil (w : World) :
    Calls Tryd.prog 18 #[.slice none 0 0] w fun e w' => e = .returned (.slice none 0 0) ∧ RowKit.Below w.heap.size w w' := by
  go_enter Tryd.func18, Tryd.ntmps18
  go_wp2_with (go_at_call 38; refine (latestS_nil _).mono ?_; rintro e w1 ⟨rfl, hb⟩)
  go_ret
  exact ⟨rfl, hb⟩
theorem equalS_nil (fv : Value) (w : World) :
    Calls Tryd.prog 52 #[.slice none 0 0, .slice none 0 0, fv] w fun e w' => e = .returned (.bool true) ∧ w' = w := by
  go_enter Tryd.func52, Tryd.ntmps52
  go_wp2
  refine wp_loop_rounds 1 ?_
  rw [rounds_succ]
  go_wp2
  go_ret
  exact ⟨rfl, rfl⟩
set_option maxHeartbeats 2000000 in
set_option maxRecDepth 100000 in
theorem sameS_nil (w : World) :
    Calls Tryd.prog 28 #[.slice none 0 0, .slice none 0 0] w fun e w' => e = .returned (.bool true) ∧ RowKit.Below w.heap.size w w' := by
  go_enter Tryd.func28, Tryd.ntmps28
  go_wp2_with fail
  refine (ofS_nil _).mono ?_
  rintro e w1 ⟨rfl, hb1⟩
  have HB1 := Lib.hid hb1
  clear hb1
  go_wp2_with fail
  refine (ofS_nil _).mono ?_
  rintro e w2 ⟨rfl, hb2⟩
  have HB2 := Lib.hid (HB1.out.trans (hb2.mono HB1.out.size))
  clear hb2
  go_wp2_with fail
  refine (equalS_nil _ _).mono ?_
  rintro e w3 ⟨rfl, rfl⟩
  go_wp2
  go_ret
  exact ⟨rfl, HB2.out⟩
def wakeP : List Par := [(⟨#[98]⟩, 1), (⟨#[97]⟩, 2), (⟨#[98]⟩, 3)]
theorem wakeP_of : ofP wakeP = [(⟨#[97]⟩, 2), (⟨#[98]⟩, 3)] := by
  simp [ofP, wakeP, setP, blt, Lib.toList_data, Op.bytesLess]
theorem wakeP_get : getP [((⟨#[97]⟩ : ByteArray), (2 : Int)), (⟨#[98]⟩, 3)] ⟨#[98]⟩ = some 3 := by simp [getP]
set_option maxHeartbeats 2000000 in
set_option maxRecDepth 100000 in
theorem awake4_any (w : World) :
    Calls Tryd.prog 6 #[] w fun e w' => e = .returned (.bool true) ∧ RowKit.Below w.heap.size w w' := by
  go_enter Tryd.func6, Tryd.ntmps6
  go_wp2_with fail
  refine (of_any (some ⟨w.heap.size, 0, none⟩) 3 3 wakeP _ rfl (by omega) (fun h => nomatch h) (at_new _ _ _ _ rfl _ rfl)).mono ?_
  rintro e w1 ⟨v, rfl, hown, hbel⟩
  rw [wakeP_of] at hown
  obtain ⟨A1, c1, rfl, _, _, hat⟩ := at_of_own' hown
  have HAN := Lib.hid (own_addr hown)
  have HB1 := Lib.hid ((below_alloc w _).trans (hbel.mono (by rw [size_alloc]; omega)))
  have HAT := Lib.hid hat
  clear hown hbel hat
  go_wp2_with fail
  refine (get_any A1 2 c1 [(⟨#[97]⟩, 2), (⟨#[98]⟩, 3)] ⟨#[98]⟩ w1 rfl (by omega) HAN.out HAT.out).mono ?_
  rintro e w2 (⟨z, hz, rfl, hb2⟩ | ⟨hz, _⟩)
  · rw [wakeP_get] at hz
    injection hz with hz
    subst hz
    obtain ⟨b, off, rfl, _, hc0, _⟩ := at_pair (HAT.out.below hb2) (k := 0) (by simp)
    have HB2 := Lib.hid (HB1.out.trans (hb2.mono HB1.out.size))
    have hc : w2.cell? ⟨b, off, none⟩ = some (.string ⟨#[97]⟩) := by simpa using hc0
    clear hb2 hc0
    go_wp2_with fail
    refine (ofS_nil _).mono ?_
    rintro e w3 ⟨rfl, hb3⟩
    have HB3 := Lib.hid (HB2.out.trans (hb3.mono HB2.out.size))
    clear hb3 hc
    go_wp2_with fail
    refine (sameS_nil _).mono ?_
    rintro e w4 ⟨rfl, hb4⟩
    have HB4 := Lib.hid (HB3.out.trans (hb4.mono HB3.out.size))
    clear hb4
    go_wp2
    go_ret
    exact ⟨rfl, HB4.out⟩
  · rw [wakeP_get] at hz
    cases hz
end Go.Proofs.YtibcfmfihcgijaaDoor
