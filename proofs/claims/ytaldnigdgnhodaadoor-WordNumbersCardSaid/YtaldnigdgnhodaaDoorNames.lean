/- Contracts of layer 2's functions on names: Key, Name, Value, Text of the program and of the document's own answers, and Cut: each returns what the file Math says, and changes nothing. -/
import Derived.Test.YtaldnigdgnhodaaDoorBytes
import Derived.WalkSpells
namespace Go.Proofs.YtaldnigdgnhodaaDoor
open Go.RowKit M
theorem ret_str {a b : ByteArray} (h : a = b) : Ending.returned (.string a) = .returned (.string b) := by rw [h]
theorem key_any (s : ByteArray) (w : World) (hs : s.size ≤ maxLen) :
    Calls Tryd.prog 12 #[.string s] w fun e w' => e = .returned (.bool (keyS s)) ∧ w = w' := by
  have hs' := hs
  unfold maxLen at hs'
  by_cases h1 : 1 ≤ s.size
  · by_cases h2 : s.size ≤ 16
    · have HS : Hid (keyS s = allB keyB s.data.toList) := by show keyS s = _; unfold keyS; simp [h1, h2]
      go_enter Tryd.func12, Tryd.ntmps12
      go_wp2_with (go_at_call 26; refine (allKey_any _ _ hs).mono ?_; rintro e w' ⟨rfl, rfl⟩)
      go_ret
      exact ⟨ret_bool HS.out.symm, rfl⟩
    · have HS : Hid (keyS s = false) := by show keyS s = _; unfold keyS; simp [h2]
      go_enter Tryd.func12, Tryd.ntmps12
      go_wp2_with (go_at_call 26; refine (allKey_any _ _ hs).mono ?_; rintro e w' ⟨rfl, rfl⟩)
      go_ret
      exact ⟨ret_bool HS.out.symm, rfl⟩
  · have HS : Hid (keyS s = false) := by show keyS s = _; unfold keyS; simp [h1]
    go_enter Tryd.func12, Tryd.ntmps12
    go_wp2_with (go_at_call 26; refine (allKey_any _ _ hs).mono ?_; rintro e w' ⟨rfl, rfl⟩)
    go_ret
    exact ⟨ret_bool HS.out.symm, rfl⟩
theorem value_any (s : ByteArray) (w : World) (hs : s.size ≤ maxLen) :
    Calls Tryd.prog 14 #[.string s] w fun e w' => e = .returned (.bool (valS s)) ∧ w = w' := by
  have hs' := hs
  unfold maxLen at hs'
  by_cases h1 : s.size ≤ maxLen
  · by_cases h2 : s.size ≤ 32
    · have HS : Hid (valS s = allB valB s.data.toList) := by show valS s = _; unfold valS; simp [h2]
      go_enter Tryd.func14, Tryd.ntmps14
      go_wp2_with (go_at_call 26; refine (allValue_any _ _ hs).mono ?_; rintro e w' ⟨rfl, rfl⟩)
      go_ret
      exact ⟨ret_bool HS.out.symm, rfl⟩
    · have HS : Hid (valS s = false) := by show valS s = _; unfold valS; simp [h2]
      go_enter Tryd.func14, Tryd.ntmps14
      go_wp2_with (go_at_call 26; refine (allValue_any _ _ hs).mono ?_; rintro e w' ⟨rfl, rfl⟩)
      go_ret
      exact ⟨ret_bool HS.out.symm, rfl⟩
  · exact absurd hs h1
theorem text_any (s : ByteArray) (w : World) (hs : s.size ≤ maxLen) :
    Calls Tryd.prog 16 #[.string s] w fun e w' => e = .returned (.bool (texS s)) ∧ w = w' := by
  have hs' := hs
  unfold maxLen at hs'
  by_cases h1 : s.size ≤ maxLen
  · by_cases h2 : s.size ≤ 64
    · have HS : Hid (texS s = allB texB s.data.toList) := by show texS s = _; unfold texS; simp [h2]
      go_enter Tryd.func16, Tryd.ntmps16
      go_wp2_with (go_at_call 26; refine (allText_any _ _ hs).mono ?_; rintro e w' ⟨rfl, rfl⟩)
      go_ret
      exact ⟨ret_bool HS.out.symm, rfl⟩
    · have HS : Hid (texS s = false) := by show texS s = _; unfold texS; simp [h2]
      go_enter Tryd.func16, Tryd.ntmps16
      go_wp2_with (go_at_call 26; refine (allText_any _ _ hs).mono ?_; rintro e w' ⟨rfl, rfl⟩)
      go_ret
      exact ⟨ret_bool HS.out.symm, rfl⟩
  · exact absurd hs h1
theorem name_any (s : ByteArray) (w : World) (hs : s.size ≤ maxLen) :
    Calls Tryd.prog 10 #[.string s] w fun e w' => e = .returned (.bool (nameS s)) ∧ w = w' := by
  by_cases h : keyS s = true
  · have h0 := keyS_size s h
    have HN : Hid (nameS s = letB (s[0].toNat : Int)) := by show nameS s = _; rw [nameS_yes s h, firstB_eq s h0]
    go_enter Tryd.func10, Tryd.ntmps10
    go_wp2_with (first | (go_at_call 12; refine (key_any _ _ hs).mono ?_; rintro e w' ⟨rfl, rfl⟩) | (go_at_call 25; refine (letter_any _ _).mono ?_; rintro e w' ⟨rfl, rfl⟩))
    go_ret
    exact ⟨ret_bool HN.out.symm, rfl⟩
  · have h' : keyS s = false := by simpa using h
    have HN := Lib.hid (nameS_no s h')
    clear h
    go_enter Tryd.func10, Tryd.ntmps10
    go_wp2_with (go_at_call 12; refine (key_any _ _ hs).mono ?_; rintro e w' ⟨rfl, rfl⟩)
    go_ret
    exact ⟨ret_bool HN.out.symm, rfl⟩
theorem rkey_any (s : ByteArray) (w : World) (hs : s.size ≤ maxLen) :
    Calls Tryd.prog 13 #[.string s] w fun e w' => e = .returned (.bool (keyS s)) ∧ w = w' := by
  unfold maxLen at hs
  go_enter Tryd.func13, Tryd.ntmps13
  go_wp2
  go_loop [3] (fun i => ∃ k : Nat, k ≤ s.size ∧ i = .int .i64 k ∧ Hid (allB keyB (s.data.toList.take k) = true)) (fun i => s.size - (intOf i).toNat)
  case atStart => exact ⟨0, Nat.zero_le _, rfl, allB_nil _⟩
  case round =>
    obtain ⟨k, hk, rfl, HA⟩ := hrel
    by_cases hlt : k < s.size
    · have HN := Lib.hid (allB_take keyB s k hlt HA.out)
      by_cases hp : keyB (s[k].toNat : Int) = true
      · go_wp2_with (go_at_call 28; refine (rplain_any _ _).mono ?_; rintro e w' ⟨rfl, rfl⟩)
        go_round
        case rel => exact ⟨k + 1, by omega, by go_num, HN.out.trans hp⟩
        case measure => simp [intOf]; omega
      · have hp' : keyB (s[k].toNat : Int) = false := by simpa using hp
        have HF := Lib.hid (allB_stop keyB s k hlt hp')
        clear hp
        go_wp2_with (go_at_call 28; refine (rplain_any _ _).mono ?_; rintro e w' ⟨rfl, rfl⟩)
        go_ret
        exact ⟨ret_bool (by unfold keyS; rw [HF.out]; simp), rfl⟩
    · have HF := Lib.hid (allB_whole keyB s k (by omega) HA.out)
      by_cases h1 : 1 ≤ s.size <;> by_cases h2 : s.size ≤ 16
      all_goals
        first
        | (exfalso; omega)
        | (go_wp2
           go_ret
           exact ⟨ret_bool (by unfold keyS; rw [HF.out, Bool.eq_iff_iff]; simp; try omega), rfl⟩)
theorem rname_any (s : ByteArray) (w : World) (hs : s.size ≤ maxLen) :
    Calls Tryd.prog 11 #[.string s] w fun e w' => e = .returned (.bool (nameS s)) ∧ w = w' := by
  by_cases h : keyS s = true
  · have h0 := keyS_size s h
    have HN : Hid (nameS s = decide ((97 : Int) ≤ (s[0].toNat : Int))) := by
      show nameS s = _
      rw [nameS_yes s h, firstB_eq s h0, letB_key _ (allB_at keyB s 0 h0 (keyS_all s h))]
    by_cases h9 : (97 : Int) ≤ (s[0].toNat : Int)
    all_goals
      go_enter Tryd.func11, Tryd.ntmps11
      go_wp2_with (go_at_call 13; refine (rkey_any _ _ hs).mono ?_; rintro e w' ⟨rfl, rfl⟩)
      go_ret
      exact ⟨ret_bool (by rw [HN.out, Bool.eq_iff_iff]; try simp; try omega), rfl⟩
  · have h' : keyS s = false := by simpa using h
    have HN := Lib.hid (nameS_no s h')
    clear h
    go_enter Tryd.func11, Tryd.ntmps11
    go_wp2_with (go_at_call 13; refine (rkey_any _ _ hs).mono ?_; rintro e w' ⟨rfl, rfl⟩)
    go_ret
    exact ⟨ret_bool HN.out.symm, rfl⟩
theorem cut_any (s : ByteArray) (n : Nat) (w : World) (_hn : n ≤ 1000000) :
    Calls Tryd.prog 9 #[.string s, .int .i64 n] w fun e w' => e = .returned (.string (cutS s n)) ∧ w = w' := by
  by_cases h : n < s.size
  · have H : Hid (cutS s n = s.extract 0 n) := by show cutS s n = _; unfold cutS; rw [if_pos h]
    go_enter Tryd.func9, Tryd.ntmps9
    go_wp2
    go_ret
    exact ⟨ret_str H.out.symm, rfl⟩
  · have H : Hid (cutS s n = s) := by show cutS s n = _; unfold cutS; rw [if_neg h]
    go_enter Tryd.func9, Tryd.ntmps9
    go_wp2
    go_ret
    exact ⟨ret_str H.out.symm, rfl⟩
theorem rvalue_any (s : ByteArray) (w : World) (hs : s.size ≤ maxLen) :
    Calls Tryd.prog 15 #[.string s] w fun e w' => e = .returned (.bool (valS s)) ∧ w = w' := by
  unfold maxLen at hs
  go_enter Tryd.func15, Tryd.ntmps15
  go_wp2
  go_loop [3] (fun i => ∃ k : Nat, k ≤ s.size ∧ i = .int .i64 k ∧ Hid (allB valB (s.data.toList.take k) = true)) (fun i => s.size - (intOf i).toNat)
  case atStart => exact ⟨0, Nat.zero_le _, rfl, allB_nil _⟩
  case round =>
    obtain ⟨k, hk, rfl, HA⟩ := hrel
    by_cases hlt : k < s.size
    · have HN := Lib.hid (allB_take valB s k hlt HA.out)
      have HF := Lib.hid (allB_stop valB s k hlt)
      by_cases hp : valB (s[k].toNat : Int) = true
      · obtain ⟨y1, y2, y3, y4, y5⟩ := valB_yes _ hp
        have HP := Lib.hid hp
        clear hp
        go_wp2
        go_round
        case rel => exact ⟨k + 1, by omega, by go_num, HN.out.trans HP.out⟩
        case measure => simp [intOf]; omega
      · have hp' : valB (s[k].toNat : Int) = false := by simpa using hp
        have HE := Lib.hid (HF.out hp')
        have HQ := valB_no _ hp'
        clear hp hp' HF HN
        rcases HQ with n1 | ⟨n1, n2⟩ | ⟨n1, n2, n3⟩ | ⟨n1, n2, n3, n4⟩ | ⟨n1, n2, n3, n4, n5⟩
        all_goals
          go_wp2
          go_ret
          exact ⟨ret_bool (by unfold valS; rw [HE.out]; simp), rfl⟩
    · have HF := Lib.hid (allB_whole valB s k (by omega) HA.out)
      by_cases h2 : s.size ≤ 32
      all_goals
        go_wp2
        go_ret
        exact ⟨ret_bool (by unfold valS; rw [HF.out, Bool.eq_iff_iff]; simp; try omega), rfl⟩
theorem rtext_any (s : ByteArray) (w : World) (hs : s.size ≤ maxLen) :
    Calls Tryd.prog 17 #[.string s] w fun e w' => e = .returned (.bool (texS s)) ∧ w = w' := by
  unfold maxLen at hs
  go_enter Tryd.func17, Tryd.ntmps17
  go_wp2
  go_loop [3] (fun i => ∃ k : Nat, k ≤ s.size ∧ i = .int .i64 k ∧ Hid (allB texB (s.data.toList.take k) = true)) (fun i => s.size - (intOf i).toNat)
  case atStart => exact ⟨0, Nat.zero_le _, rfl, allB_nil _⟩
  case round =>
    obtain ⟨k, hk, rfl, HA⟩ := hrel
    by_cases hlt : k < s.size
    · have HN := Lib.hid (allB_take texB s k hlt HA.out)
      have HF := Lib.hid (allB_stop texB s k hlt)
      by_cases hp : texB (s[k].toNat : Int) = true
      · obtain ⟨y1, y2, y3⟩ := texB_yes _ hp
        have HP := Lib.hid hp
        clear hp
        go_wp2
        go_round
        case rel => exact ⟨k + 1, by omega, by go_num, HN.out.trans HP.out⟩
        case measure => simp [intOf]; omega
      · have hp' : texB (s[k].toNat : Int) = false := by simpa using hp
        have HE := Lib.hid (HF.out hp')
        have HQ := texB_no _ hp'
        clear hp hp' HF HN
        rcases HQ with n1 | ⟨n1, n2⟩ | ⟨n1, n2, n3⟩
        all_goals
          go_wp2
          go_ret
          exact ⟨ret_bool (by unfold texS; rw [HE.out]; simp), rfl⟩
    · have HF := Lib.hid (allB_whole texB s k (by omega) HA.out)
      by_cases h2 : s.size ≤ 64
      all_goals
        go_wp2
        go_ret
        exact ⟨ret_bool (by unfold texS; rw [HF.out, Bool.eq_iff_iff]; simp; try omega), rfl⟩
end Go.Proofs.YtaldnigdgnhodaaDoor
