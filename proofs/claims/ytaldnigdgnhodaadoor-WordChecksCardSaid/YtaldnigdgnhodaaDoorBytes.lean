/- Contracts of layer 2's functions on bytes and strings: letter, digit, the three kinds of bytes, 'all', Key, Name, Value, Text, and the document's own ones: each returns the plain Bool that the file Math says, and changes nothing. -/
import Derived.Test.YtaldnigdgnhodaaDoorChecked
import Derived.Test.YtaldnigdgnhodaaDoorMath
import Derived.WalkKit
import Derived.LoopTactic
import Derived.Lib.Hide
namespace Go.Proofs.YtaldnigdgnhodaaDoor
open Go.RowKit M
theorem ret_bool {a b : Bool} (h : a = b) : Ending.returned (.bool a) = .returned (.bool b) := by rw [h]
theorem letter_any (n : Int) (w : World) :
    Calls Tryd.prog 25 #[.int .u8 n] w fun e w' => e = .returned (.bool (letB n)) ∧ w = w' := by
  go_enter Tryd.func25, Tryd.ntmps25
  go_wp2
  all_goals
    go_ret
    exact ⟨ret_bool (by unfold letB; rw [Bool.eq_iff_iff]; simp; try omega), rfl⟩
theorem digit_any (n : Int) (w : World) :
    Calls Tryd.prog 36 #[.int .u8 n] w fun e w' => e = .returned (.bool (digB n)) ∧ w = w' := by
  go_enter Tryd.func36, Tryd.ntmps36
  go_wp2
  all_goals
    go_ret
    exact ⟨ret_bool (by unfold digB; rw [Bool.eq_iff_iff]; simp; try omega), rfl⟩
theorem rplain_any (n : Int) (w : World) :
    Calls Tryd.prog 28 #[.int .u8 n] w fun e w' => e = .returned (.bool (keyB n)) ∧ w = w' := by
  go_enter Tryd.func28, Tryd.ntmps28
  go_wp2
  all_goals
    go_ret
    exact ⟨ret_bool (by unfold keyB; rw [Bool.eq_iff_iff]; simp; try omega), rfl⟩
theorem ofText_any (n : Int) (w : World) :
    Calls Tryd.prog 30 #[.int .u8 n] w fun e w' => e = .returned (.bool (texB n)) ∧ w = w' := by
  go_enter Tryd.func30, Tryd.ntmps30
  go_wp2
  all_goals
    go_ret
    exact ⟨ret_bool (by unfold texB; rw [Bool.eq_iff_iff]; simp; try omega), rfl⟩
theorem ofKey_any (n : Int) (w : World) :
    Calls Tryd.prog 27 #[.int .u8 n] w fun e w' => e = .returned (.bool (keyB n)) ∧ w = w' := by
  have hk : keyB n = decide ((97 ≤ n ∧ n ≤ 122) ∨ (48 ≤ n ∧ n ≤ 57) ∨ n = 45) := rfl
  have H := Lib.hid hk
  clear hk
  by_cases h1 : 97 ≤ n ∧ n ≤ 122 <;> by_cases h2 : 48 ≤ n ∧ n ≤ 57
  all_goals
    have hl : letB n = decide (97 ≤ n ∧ n ≤ 122) := rfl
    have hd : digB n = decide (48 ≤ n ∧ n ≤ 57) := rfl
    simp only [h1, h2] at hl hd
    try simp only [decide_true] at hl hd
    try simp only [decide_false] at hl hd
    have HH := Lib.hid h1
    have HG := Lib.hid h2
    clear h1 h2
    go_enter Tryd.func27, Tryd.ntmps27
    go_wp2_with (first | (go_at_call 25; refine (letter_any _ _).mono ?_; rintro e w' ⟨rfl, rfl⟩) | (go_at_call 36; refine (digit_any _ _).mono ?_; rintro e w' ⟨rfl, rfl⟩))
    all_goals
      go_ret
      exact ⟨ret_bool (by have a := HH.out; have b := HG.out; rw [H.out, Bool.eq_iff_iff]; simp; try omega), rfl⟩
theorem ofValue_any (n : Int) (w : World) :
    Calls Tryd.prog 29 #[.int .u8 n] w fun e w' => e = .returned (.bool (valB n)) ∧ w = w' := by
  by_cases h : 32 ≤ n ∧ n ≤ 126 ∧ n ≠ 39
  · have ht : texB n = true := by unfold texB; simpa using h
    have H := Lib.hid h
    clear h
    go_enter Tryd.func29, Tryd.ntmps29
    go_wp2_with (go_at_call 30; refine (ofText_any _ _).mono ?_; rintro e w' ⟨rfl, rfl⟩)
    all_goals
      go_ret
      exact ⟨ret_bool (by have := H.out; unfold valB; rw [Bool.eq_iff_iff]; simp; try omega), rfl⟩
  · have ht : texB n = false := by unfold texB; simpa using h
    have H := Lib.hid h
    clear h
    go_enter Tryd.func29, Tryd.ntmps29
    go_wp2_with (go_at_call 30; refine (ofText_any _ _).mono ?_; rintro e w' ⟨rfl, rfl⟩)
    all_goals
      go_ret
      exact ⟨ret_bool (by have := H.out; unfold valB; rw [Bool.eq_iff_iff]; simp; try omega), rfl⟩
theorem allKey_any (s : ByteArray) (w : World) (hs : s.size ≤ maxLen) :
    Calls Tryd.prog 26 #[.string s, .func (.func 27) #[] #[]] w fun e w' => e = .returned (.bool (allB keyB s.data.toList)) ∧ w = w' := by
  unfold maxLen at hs
  go_enter Tryd.func26, Tryd.ntmps26
  go_wp2
  go_loop [8] (fun i => ∃ k : Nat, k ≤ s.size ∧ i = .int .i64 k ∧ Hid (allB keyB (s.data.toList.take k) = true)) (fun i => s.size - (intOf i).toNat)
  case atStart => exact ⟨0, Nat.zero_le _, rfl, allB_nil _⟩
  case round =>
    obtain ⟨k, hk, rfl, HA⟩ := hrel
    by_cases hlt : k < s.size
    · have HN := Lib.hid (allB_take keyB s k hlt HA.out)
      by_cases hp : keyB (s[k].toNat : Int) = true
      · go_wp2_with (go_at_call 27; refine (ofKey_any _ _).mono ?_; rintro e w' ⟨rfl, rfl⟩)
        go_round
        case rel => exact ⟨k + 1, by omega, by go_num, HN.out.trans hp⟩
        case measure => simp [intOf]; omega
      · have hp' : keyB (s[k].toNat : Int) = false := by simpa using hp
        have HF := Lib.hid (allB_stop keyB s k hlt hp')
        clear hp
        go_wp2_with (go_at_call 27; refine (ofKey_any _ _).mono ?_; rintro e w' ⟨rfl, rfl⟩)
        go_ret
        exact ⟨ret_bool HF.out.symm, rfl⟩
    · have HF := Lib.hid (allB_whole keyB s k (by omega) HA.out)
      go_wp2
      go_ret
      exact ⟨ret_bool HF.out.symm, rfl⟩
theorem allValue_any (s : ByteArray) (w : World) (hs : s.size ≤ maxLen) :
    Calls Tryd.prog 26 #[.string s, .func (.func 29) #[] #[]] w fun e w' => e = .returned (.bool (allB valB s.data.toList)) ∧ w = w' := by
  unfold maxLen at hs
  go_enter Tryd.func26, Tryd.ntmps26
  go_wp2
  go_loop [8] (fun i => ∃ k : Nat, k ≤ s.size ∧ i = .int .i64 k ∧ Hid (allB valB (s.data.toList.take k) = true)) (fun i => s.size - (intOf i).toNat)
  case atStart => exact ⟨0, Nat.zero_le _, rfl, allB_nil _⟩
  case round =>
    obtain ⟨k, hk, rfl, HA⟩ := hrel
    by_cases hlt : k < s.size
    · have HN := Lib.hid (allB_take valB s k hlt HA.out)
      by_cases hp : valB (s[k].toNat : Int) = true
      · go_wp2_with (go_at_call 29; refine (ofValue_any _ _).mono ?_; rintro e w' ⟨rfl, rfl⟩)
        go_round
        case rel => exact ⟨k + 1, by omega, by go_num, HN.out.trans hp⟩
        case measure => simp [intOf]; omega
      · have hp' : valB (s[k].toNat : Int) = false := by simpa using hp
        have HF := Lib.hid (allB_stop valB s k hlt hp')
        clear hp
        go_wp2_with (go_at_call 29; refine (ofValue_any _ _).mono ?_; rintro e w' ⟨rfl, rfl⟩)
        go_ret
        exact ⟨ret_bool HF.out.symm, rfl⟩
    · have HF := Lib.hid (allB_whole valB s k (by omega) HA.out)
      go_wp2
      go_ret
      exact ⟨ret_bool HF.out.symm, rfl⟩
theorem allText_any (s : ByteArray) (w : World) (hs : s.size ≤ maxLen) :
    Calls Tryd.prog 26 #[.string s, .func (.func 30) #[] #[]] w fun e w' => e = .returned (.bool (allB texB s.data.toList)) ∧ w = w' := by
  unfold maxLen at hs
  go_enter Tryd.func26, Tryd.ntmps26
  go_wp2
  go_loop [8] (fun i => ∃ k : Nat, k ≤ s.size ∧ i = .int .i64 k ∧ Hid (allB texB (s.data.toList.take k) = true)) (fun i => s.size - (intOf i).toNat)
  case atStart => exact ⟨0, Nat.zero_le _, rfl, allB_nil _⟩
  case round =>
    obtain ⟨k, hk, rfl, HA⟩ := hrel
    by_cases hlt : k < s.size
    · have HN := Lib.hid (allB_take texB s k hlt HA.out)
      by_cases hp : texB (s[k].toNat : Int) = true
      · go_wp2_with (go_at_call 30; refine (ofText_any _ _).mono ?_; rintro e w' ⟨rfl, rfl⟩)
        go_round
        case rel => exact ⟨k + 1, by omega, by go_num, HN.out.trans hp⟩
        case measure => simp [intOf]; omega
      · have hp' : texB (s[k].toNat : Int) = false := by simpa using hp
        have HF := Lib.hid (allB_stop texB s k hlt hp')
        clear hp
        go_wp2_with (go_at_call 30; refine (ofText_any _ _).mono ?_; rintro e w' ⟨rfl, rfl⟩)
        go_ret
        exact ⟨ret_bool HF.out.symm, rfl⟩
    · have HF := Lib.hid (allB_whole texB s k (by omega) HA.out)
      go_wp2
      go_ret
      exact ⟨ret_bool HF.out.symm, rfl⟩
theorem allDigit_any (s : ByteArray) (w : World) (hs : s.size ≤ maxLen) :
    Calls Tryd.prog 26 #[.string s, .func (.func 36) #[] #[]] w fun e w' => e = .returned (.bool (allB digB s.data.toList)) ∧ w = w' := by
  unfold maxLen at hs
  go_enter Tryd.func26, Tryd.ntmps26
  go_wp2
  go_loop [8] (fun i => ∃ k : Nat, k ≤ s.size ∧ i = .int .i64 k ∧ Hid (allB digB (s.data.toList.take k) = true)) (fun i => s.size - (intOf i).toNat)
  case atStart => exact ⟨0, Nat.zero_le _, rfl, allB_nil _⟩
  case round =>
    obtain ⟨k, hk, rfl, HA⟩ := hrel
    by_cases hlt : k < s.size
    · have HN := Lib.hid (allB_take digB s k hlt HA.out)
      by_cases hp : digB (s[k].toNat : Int) = true
      · go_wp2_with (go_at_call 36; refine (digit_any _ _).mono ?_; rintro e w' ⟨rfl, rfl⟩)
        go_round
        case rel => exact ⟨k + 1, by omega, by go_num, HN.out.trans hp⟩
        case measure => simp [intOf]; omega
      · have hp' : digB (s[k].toNat : Int) = false := by simpa using hp
        have HF := Lib.hid (allB_stop digB s k hlt hp')
        clear hp
        go_wp2_with (go_at_call 36; refine (digit_any _ _).mono ?_; rintro e w' ⟨rfl, rfl⟩)
        go_ret
        exact ⟨ret_bool HF.out.symm, rfl⟩
    · have HF := Lib.hid (allB_whole digB s k (by omega) HA.out)
      go_wp2
      go_ret
      exact ⟨ret_bool HF.out.symm, rfl⟩
end Go.Proofs.YtaldnigdgnhodaaDoor
