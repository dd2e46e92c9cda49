/- Contracts of layer 2's numbers: plain, amount, Number, Digits and the document's own Number. -/
import Derived.Test.YtaldnigdgnhodaaDoorCheck
import Derived.Test.YtaldnigdgnhodaaDoorNum
import Derived.Lib.AppendIntMem
import Derived.WalkSmall
namespace Go.Proofs.YtaldnigdgnhodaaDoor
open Go.RowKit M
theorem plain_any (d : ByteArray) (w : World) (hs : d.size ≤ maxLen) :
    Calls Tryd.prog 33 #[.string d] w fun e w' => e = .returned (.bool (plainS d)) ∧ w = w' := by
  have hs' := hs
  unfold maxLen at hs'
  have HP : Hid (plainS d = (decide (1 ≤ d.size ∧ d.size ≤ 10) && allB digB d.data.toList && (decide (d.size = 1) || !(decide (firstB d = 48))))) := rfl
  by_cases h1 : 1 ≤ d.size
  · by_cases h2 : d.size ≤ 10
    · cases ha : allB digB d.data.toList
      · go_enter Tryd.func33, Tryd.ntmps33
        go_wp2_with (go_at_call 26; refine (allDigit_any _ _ hs).mono ?_; rintro e w' ⟨rfl, rfl⟩)
        go_ret
        exact ⟨ret_bool (by rw [HP.out, ha]; simp), rfl⟩
      · have hf : firstB d = (d[0].toNat : Int) := firstB_eq d h1
        rw [hf] at HP
        clear hf
        cases h3 : ((d[0].toNat : Int) != 48)
        · have h3' : ((d[0].toNat : Int) == 48) = true := by simpa using h3
          have H3 := Lib.hid (show (d[0].toNat : Int) = 48 by simpa using h3)
          by_cases h4 : d.size = 1
          · have h4' : ((d.size : Int) == 1) = true := by simp; omega
            have H4 := Lib.hid h4
            clear h4
            go_enter Tryd.func33, Tryd.ntmps33
            go_wp2_with (go_at_call 26; refine (allDigit_any _ _ hs).mono ?_; rintro e w' ⟨rfl, rfl⟩)
            go_ret
            exact ⟨ret_bool (by rw [HP.out, ha]; simp [H4.out]), rfl⟩
          · have h4' : ((d.size : Int) == 1) = false := by simp; omega
            have H4 := Lib.hid h4
            clear h4
            go_enter Tryd.func33, Tryd.ntmps33
            go_wp2_with (go_at_call 26; refine (allDigit_any _ _ hs).mono ?_; rintro e w' ⟨rfl, rfl⟩)
            go_ret
            exact ⟨ret_bool (by rw [HP.out, ha, H3.out]; simp [H4.out]), rfl⟩
        · have h3' : ((d[0].toNat : Int) == 48) = false := by simpa using h3
          have H3 := Lib.hid (show ¬ (d[0].toNat : Int) = 48 by simpa using h3)
          go_enter Tryd.func33, Tryd.ntmps33
          go_wp2_with (go_at_call 26; refine (allDigit_any _ _ hs).mono ?_; rintro e w' ⟨rfl, rfl⟩)
          go_ret
          exact ⟨ret_bool (by rw [HP.out, ha, decide_eq_false H3.out]; simp; omega), rfl⟩
    · go_enter Tryd.func33, Tryd.ntmps33
      go_wp2_with (go_at_call 26; refine (allDigit_any _ _ hs).mono ?_; rintro e w' ⟨rfl, rfl⟩)
      go_ret
      exact ⟨ret_bool (by rw [HP.out]; simp; omega), rfl⟩
  · go_enter Tryd.func33, Tryd.ntmps33
    go_wp2_with (go_at_call 26; refine (allDigit_any _ _ hs).mono ?_; rintro e w' ⟨rfl, rfl⟩)
    go_ret
    exact ⟨ret_bool (by rw [HP.out]; simp; omega), rfl⟩
theorem valN_next (d : ByteArray) (k : Nat) (h : k < d.size) : valN (d.data.toList.take (k + 1)) = valN (d.data.toList.take k) * 10 + (d[k].toNat - 48) := by
  rw [take_snoc d k h, valN_snoc]
theorem valN_take_bd (d : ByteArray) (k : Nat) (hk : k < d.size) (h10 : d.size ≤ 10) (ha : allB digB d.data.toList = true) : valN (d.data.toList.take k) ≤ 999999999 := by
  have h1 := valN_lt _ (allB_take_of digB _ k ha)
  have h2 : (d.data.toList.take k).length ≤ 9 := by rw [List.length_take]; omega
  have h3 : 10 ^ (d.data.toList.take k).length ≤ 10 ^ 9 := Nat.pow_le_pow_right (by decide) h2
  omega
theorem amount_any (d : ByteArray) (w : World) (h10 : d.size ≤ 10) (ha : allB digB d.data.toList = true) :
    Calls Tryd.prog 34 #[.string d] w fun e w' => e = .returned (.int .i64 (valN d.data.toList)) ∧ w = w' := by
  have HA := Lib.hid ha
  clear ha
  go_enter Tryd.func34, Tryd.ntmps34
  go_wp2
  go_loop [3, 7] (fun n i => ∃ k : Nat, k ≤ d.size ∧ i = .int .i64 k ∧ n = .int .i64 (valN (d.data.toList.take k))) (fun _ i => d.size - (intOf i).toNat)
  case atStart => exact ⟨0, Nat.zero_le _, rfl, rfl⟩
  case round =>
    obtain ⟨k, hk, rfl, rfl⟩ := hrel
    by_cases hlt : k < d.size
    · have HN := Lib.hid (valN_next d k hlt)
      obtain ⟨b1, b2⟩ := digB_bd d[k] (allB_at digB d k hlt HA.out)
      have b3 := valN_take_bd d k hlt h10 HA.out
      go_wp2
      go_round
      case rel => exact ⟨k + 1, by omega, by go_num, by rw [HN.out]; congr 1; omega⟩
      case measure => simp [intOf]; omega
    · have HE : Hid (d.data.toList.take k = d.data.toList) := List.take_of_length_le (by simp; omega)
      go_wp2
      go_ret
      exact ⟨ret_num (by rw [HE.out]), rfl⟩
theorem cutp_any (s : ByteArray) (w : World) :
    Calls Tryd.prog 32 #[.string s, .string ⟨#[45]⟩] w fun e w' => e = .returned (.tuple #[.string (restS s), .bool (negS s)]) ∧ w = w' :=
  (Tryd.strings_CutPrefix s ⟨#[45]⟩ w).mono fun e w' h => ⟨by rw [h.1, ← rest_trim]; rfl, h.2.symm⟩
theorem ret_pair {a b : Int} {c d : Bool} (h : a = b) (h' : c = d) : Ending.returned (.tuple #[.int .i64 a, .bool c]) = .returned (.tuple #[.int .i64 b, .bool d]) := by rw [h, h']
theorem number_any (s : ByteArray) (w : World) (hs : s.size ≤ maxLen) :
    Calls Tryd.prog 22 #[.string s] w fun e w' => e = .returned (.tuple #[.int .i64 (numV s), .bool (numO s)]) ∧ w = w' := by
  have hd : (restS s).size ≤ maxLen := Nat.le_trans (restS_le s) hs
  have HV : Hid (numV s = (numS s).getD 0 ∧ numO s = (numS s).isSome) := ⟨rfl, rfl⟩
  cases hp : plainS (restS s)
  · rw [numS_bad s hp] at HV
    go_enter Tryd.func22, Tryd.ntmps22
    go_wp2_with (first | (go_at_call 32; refine (cutp_any _ _).mono ?_; rintro e w' ⟨rfl, rfl⟩) | (go_at_call 33; refine (plain_any _ _ hd).mono ?_; rintro e w' ⟨rfl, rfl⟩))
    go_ret2
    exact ⟨ret_pair HV.out.1.symm HV.out.2.symm, rfl⟩
  · obtain ⟨p1, p2, p3, p4⟩ := plainS_all _ hp
    have HA := Lib.hid p3
    have b := valN_small _ p3 (by rw [← Lib.size_eq]; exact p2)
    clear p1 p3 p4
    cases hn : negS s
    · have HS := numS_pos s hn hp
      by_cases c : (2147483647 : Int) < valN (restS s).data.toList
      · rw [if_pos c] at HS
        rw [HS] at HV
        clear HS
        go_enter Tryd.func22, Tryd.ntmps22
        go_wp2_with (first | (go_at_call 32; refine (cutp_any _ _).mono ?_; rintro e w' ⟨rfl, rfl⟩) | (go_at_call 33; refine (plain_any _ _ hd).mono ?_; rintro e w' ⟨rfl, rfl⟩) | (go_at_call 34; refine (amount_any _ _ p2 HA.out).mono ?_; rintro e w' ⟨rfl, rfl⟩))
        go_ret2
        exact ⟨ret_pair HV.out.1.symm HV.out.2.symm, rfl⟩
      · rw [if_neg c] at HS
        rw [HS] at HV
        clear HS
        go_enter Tryd.func22, Tryd.ntmps22
        go_wp2_with (first | (go_at_call 32; refine (cutp_any _ _).mono ?_; rintro e w' ⟨rfl, rfl⟩) | (go_at_call 33; refine (plain_any _ _ hd).mono ?_; rintro e w' ⟨rfl, rfl⟩) | (go_at_call 34; refine (amount_any _ _ p2 HA.out).mono ?_; rintro e w' ⟨rfl, rfl⟩))
        go_ret2
        exact ⟨ret_pair HV.out.1.symm HV.out.2.symm, rfl⟩
    · by_cases hz : (restS s).data.toList = [48]
      · have hz' : ((restS s).toList == [48]) = true := by rw [Lib.toList_data, hz]; rfl
        rw [numS_negz s hn hz] at HV
        clear hz
        go_enter Tryd.func22, Tryd.ntmps22
        go_wp2_with (first | (go_at_call 32; refine (cutp_any _ _).mono ?_; rintro e w' ⟨rfl, rfl⟩) | (go_at_call 33; refine (plain_any _ _ hd).mono ?_; rintro e w' ⟨rfl, rfl⟩) | (go_at_call 34; refine (amount_any _ _ p2 HA.out).mono ?_; rintro e w' ⟨rfl, rfl⟩))
        go_ret2
        exact ⟨ret_pair HV.out.1.symm HV.out.2.symm, rfl⟩
      · have hz' : ((restS s).toList == [48]) = false := by rw [Lib.toList_data]; simpa using hz
        have HS := numS_neg s hn hp hz
        clear hz
        by_cases c : (2147483648 : Int) < valN (restS s).data.toList
        · rw [if_pos c] at HS
          rw [HS] at HV
          clear HS
          go_enter Tryd.func22, Tryd.ntmps22
          go_wp2_with (first | (go_at_call 32; refine (cutp_any _ _).mono ?_; rintro e w' ⟨rfl, rfl⟩) | (go_at_call 33; refine (plain_any _ _ hd).mono ?_; rintro e w' ⟨rfl, rfl⟩) | (go_at_call 34; refine (amount_any _ _ p2 HA.out).mono ?_; rintro e w' ⟨rfl, rfl⟩))
          go_ret2
          exact ⟨ret_pair HV.out.1.symm HV.out.2.symm, rfl⟩
        · rw [if_neg c] at HS
          rw [HS] at HV
          clear HS
          go_enter Tryd.func22, Tryd.ntmps22
          go_wp2_with (first | (go_at_call 32; refine (cutp_any _ _).mono ?_; rintro e w' ⟨rfl, rfl⟩) | (go_at_call 33; refine (plain_any _ _ hd).mono ?_; rintro e w' ⟨rfl, rfl⟩) | (go_at_call 34; refine (amount_any _ _ p2 HA.out).mono ?_; rintro e w' ⟨rfl, rfl⟩))
          go_ret2
          exact ⟨ret_pair HV.out.1.symm HV.out.2.symm, rfl⟩
/-- the library's table of powers of ten, as the row's list lays it. -/
abbrev Tab (w : World) : Prop := Lib.TabIs Tryd.prog w "internal/strconv.uint64pow10" .u64 Lib.pow10Tab
theorem digits_any (n : Int) (w : World) (h0 : -9223372036854775808 ≤ n) (h1 : n ≤ 9223372036854775807) (ht : Hid (Tab w)) :
    Calls Tryd.prog 24 #[.int .i64 n] w fun e w' => e = .returned (.string ⟨(Lib.itoa n).toArray⟩) ∧ Below w.heap.size w w' := by
  go_enter Tryd.func24, Tryd.ntmps24
  go_wp2_with (go_at_call 35; refine (Tryd.strconv_Itoa _ h0 h1 _ ht.out).mono ?_; rintro e w' ⟨rfl, k, os, rfl⟩)
  go_ret
  exact ⟨rfl, Lib.below_grow _ _ (Nat.le_refl _) _ _⟩
end Go.Proofs.YtaldnigdgnhodaaDoor
