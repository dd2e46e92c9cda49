/- The walks of layer 2's statements: each call returns true and leaves alone what was there, in every world that holds the library's table of powers of ten. -/
import Derived.Test.YtaldnigdgnhodaaDoorRef
namespace Go.Proofs.YtaldnigdgnhodaaDoor
open Go.RowKit M
theorem gPow : Tryd.prog.globalNamed "internal/strconv.uint64pow10" = some 0 := by kernel_rfl
theorem tab_below {w w' : World} (ht : Hid (Tab w)) (hb : Below w.heap.size w w') : Hid (Tab w') := by
  have hv := ht.out
  unfold Tab Lib.TabIs at hv
  refine Go.var?_below hb gPow ?_ hv
  unfold World.var? at hv
  simp only [gPow, Option.bind_some] at hv
  rcases Nat.lt_or_ge 0 w.heap.size with h1 | h1
  · exact h1
  · rw [Array.getElem?_eq_none h1] at hv
    cases hv
theorem awake_any (w : World) (ht : Hid (Tab w)) :
    Calls Tryd.prog 8 #[] w fun e w' => e = .returned (.bool true) ∧ Below w.heap.size w w' := by
  have C1 : Hid (∀ w, Calls Tryd.prog 22 #[.string ⟨#[45, 49, 50]⟩] w fun e w' => e = .returned (.tuple #[.int .i64 (-12), .bool true]) ∧ w = w') := fun w => number_any ⟨#[45, 49, 50]⟩ w (by decide)
  have C2 : Hid (∀ w, Calls Tryd.prog 10 #[.string ⟨#[97, 45, 49]⟩] w fun e w' => e = .returned (.bool true) ∧ w = w') := fun w => name_any ⟨#[97, 45, 49]⟩ w (by decide)
  have C3 : Hid (∀ w, Calls Tryd.prog 10 #[.string ⟨#[49, 97]⟩] w fun e w' => e = .returned (.bool false) ∧ w = w') := fun w => name_any ⟨#[49, 97]⟩ w (by decide)
  have C4 : Hid (∀ w, Calls Tryd.prog 12 #[.string ⟨#[49, 97]⟩] w fun e w' => e = .returned (.bool true) ∧ w = w') := fun w => key_any ⟨#[49, 97]⟩ w (by decide)
  have C5 : Hid (∀ w, Calls Tryd.prog 18 #[.string ⟨#[116, 45, 120]⟩] w fun e w' => e = .returned (.int .i64 6) ∧ w = w') := fun w => check_any ⟨#[116, 45, 120]⟩ w (by decide)
  have C6 : Hid (Calls Tryd.prog 24 #[.int .i64 (-12)] w fun e w' => e = .returned (.string ⟨#[45, 49, 50]⟩) ∧ Below w.heap.size w w') := by
    have h := digits_any (-12) w (by decide) (by decide) ht
    rw [show Lib.itoa (-12) = [45, 49, 50] from by decide +kernel] at h
    exact h
  go_enter Tryd.func8, Tryd.ntmps8
  go_wp2_with (first | (go_at_call 22; refine (C1.out _).mono ?_; rintro e w' ⟨rfl, rfl⟩) | (go_at_call 10; (with_reducible refine (C2.out _).mono ?_); rintro e w' ⟨rfl, rfl⟩) | (go_at_call 10; (with_reducible refine (C3.out _).mono ?_); rintro e w' ⟨rfl, rfl⟩) | (go_at_call 12; refine (C4.out _).mono ?_; rintro e w' ⟨rfl, rfl⟩) | (go_at_call 18; refine (C5.out _).mono ?_; rintro e w' ⟨rfl, rfl⟩) | (go_at_call 24; refine C6.out.mono ?_; rintro e w' ⟨rfl, hb⟩))
  go_ret
  exact ⟨rfl, ‹_›⟩
theorem wordMay_any (s : ByteArray) (w : World) (hs : s.size ≤ maxLen) (ht : Hid (Tab w)) :
    Calls Tryd.prog 3 #[.string s] w fun e w' => e = .returned (.bool true) ∧ Below w.heap.size w w' := by
  have hc : (cutS s 70).size ≤ maxLen := Nat.le_trans (cutS_le s 70) hs
  have C0 : Hid (∀ w, Calls Tryd.prog 9 #[.string s, .int .i64 70] w fun e w' => e = .returned (.string (cutS s 70)) ∧ w = w') := fun w => cut_any s 70 w (by decide)
  go_enter Tryd.func3, Tryd.ntmps3
  go_wp2_with (first | (go_at_call 8; refine (awake_any _ ht).mono ?_; rintro e w1 ⟨rfl, hb⟩; have HB := Lib.hid hb; clear hb) | (go_at_call 9; refine (C0.out _).mono ?_; rintro e w' ⟨rfl, rfl⟩) | (go_at_call 10; refine (name_any _ _ hc).mono ?_; rintro e w' ⟨rfl, rfl⟩) | (go_at_call 11; refine (rname_any _ _ hc).mono ?_; rintro e w' ⟨rfl, rfl⟩) | (go_at_call 12; refine (key_any _ _ hc).mono ?_; rintro e w' ⟨rfl, rfl⟩) | (go_at_call 13; refine (rkey_any _ _ hc).mono ?_; rintro e w' ⟨rfl, rfl⟩) | (go_at_call 14; refine (value_any _ _ hc).mono ?_; rintro e w' ⟨rfl, rfl⟩) | (go_at_call 15; refine (rvalue_any _ _ hc).mono ?_; rintro e w' ⟨rfl, rfl⟩) | (go_at_call 16; refine (text_any _ _ hc).mono ?_; rintro e w' ⟨rfl, rfl⟩) | (go_at_call 17; refine (rtext_any _ _ hc).mono ?_; rintro e w' ⟨rfl, rfl⟩))
  go_ret
  exact ⟨rfl, HB.out⟩
theorem wordChecks_any (s : ByteArray) (w : World) (hs : s.size ≤ maxLen) (ht : Hid (Tab w)) :
    Calls Tryd.prog 4 #[.string s] w fun e w' => e = .returned (.bool true) ∧ Below w.heap.size w w' := by
  have hc : (cutS s 20).size ≤ maxLen := Nat.le_trans (cutS_le s 20) hs
  have C0 : Hid (∀ w, Calls Tryd.prog 9 #[.string s, .int .i64 20] w fun e w' => e = .returned (.string (cutS s 20)) ∧ w = w') := fun w => cut_any s 20 w (by decide)
  go_enter Tryd.func4, Tryd.ntmps4
  go_wp2_with (first | (go_at_call 8; refine (awake_any _ ht).mono ?_; rintro e w1 ⟨rfl, hb⟩; have HB := Lib.hid hb; clear hb) | (go_at_call 9; refine (C0.out _).mono ?_; rintro e w' ⟨rfl, rfl⟩) | (go_at_call 18; refine (check_any _ _ hc).mono ?_; rintro e w' ⟨rfl, rfl⟩) | (go_at_call 19; refine (rcheck_any _ _ hc).mono ?_; rintro e w' ⟨rfl, rfl⟩) | (go_at_call 20; refine (reserved_any _ _).mono ?_; rintro e w' ⟨rfl, rfl⟩) | (go_at_call 21; refine (rreserved_any _ _ hc).mono ?_; rintro e w' ⟨rfl, rfl⟩))
  go_ret
  exact ⟨rfl, HB.out⟩
end Go.Proofs.YtaldnigdgnhodaaDoor
