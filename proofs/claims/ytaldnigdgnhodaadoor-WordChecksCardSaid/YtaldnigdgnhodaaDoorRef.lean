/- The document's own Number: it returns the number that the program's Number returns, and leaves alone what was there. -/
import Derived.Test.YtaldnigdgnhodaaDoorNumber
namespace Go.Proofs.YtaldnigdgnhodaaDoor
open Go.RowKit M
/-- Itoa's answer under a name of its own. -/
theorem itoa_named (n : Int) (w : World) (h0 : -9223372036854775808 ≤ n) (h1 : n ≤ 9223372036854775807) (ht : Hid (Tab w)) :
    Calls Tryd.prog 35 #[.int .i64 n] w fun e w' => ∃ T : ByteArray, e = .returned (.string T) ∧ Hid (T.data.toList = Lib.itoa n) ∧ Below w.heap.size w w' :=
  (Tryd.strconv_Itoa n h0 h1 w ht.out).mono fun e w' h => by
    obtain ⟨h1, k, os, rfl⟩ := h
    exact ⟨_, h1, rfl, Lib.below_grow _ _ (Nat.le_refl _) _ _⟩
theorem str_eq {T s : ByteArray} {l : List UInt8} (h : T.data.toList = l) (e : l = s.data.toList) : (T.toList == s.toList) = true := by
  rw [Lib.toList_data, Lib.toList_data, h, e]; simp
theorem str_ne {T s : ByteArray} {l : List UInt8} (h : T.data.toList = l) (e : l ≠ s.data.toList) : (T.toList == s.toList) = false := by
  rw [Lib.toList_data, Lib.toList_data, h]; simpa using e
theorem rnumber_neg (s : ByteArray) (w : World) (hs : s.size ≤ maxLen) (ht : Hid (Tab w)) (hn : negS s = true) :
    Calls Tryd.prog 23 #[.string s] w fun e w' => e = .returned (.tuple #[.int .i64 (numV s), .bool (numO s)]) ∧ Below w.heap.size w w' := by
  have hs' := hs
  unfold maxLen at hs'
  have HV : Hid (numV s = (numS s).getD 0 ∧ numO s = (numS s).isSome) := ⟨rfl, rfl⟩
  obtain ⟨h0, h45⟩ := negS_yes s hn
  have HR := Lib.hid (rest_neg s hn)
  have hsz : (restS s).size = s.size - 1 := by rw [rest_neg s hn]; simp
  have z1 : (restS s).size ≤ s.size - 1 := by omega
  have z2 : s.size - 1 ≤ (restS s).size := by omega
  have hL := Lib.hid (neg_list s hn)
  clear hsz
  by_cases h1 : 1 ≤ (restS s).size
  · by_cases h2 : (restS s).size ≤ 10
    · go_enter Tryd.func23, Tryd.ntmps23
      go_wp2
      rw [← HR.out]
      go_loop [6, 7] (fun n i => ∃ k : Nat, k ≤ (restS s).size ∧ i = .int .i64 k ∧ n = .int .i64 (valN ((restS s).data.toList.take k)) ∧ Hid (allB digB ((restS s).data.toList.take k) = true)) (fun _ i => (restS s).size - (intOf i).toNat)
      case atStart => exact ⟨0, Nat.zero_le _, rfl, rfl, allB_nil _⟩
      case round =>
        obtain ⟨k, hk, rfl, rfl, HA⟩ := hrel
        by_cases hlt : k < (restS s).size
        · cases hp : digB ((restS s)[k].toNat : Int)
          · have HF := Lib.hid (numS_bad s (plainS_dig _ (allB_stop digB _ k hlt hp)))
            have hq := digB_no _ hp
            rw [HF.out] at HV
            rcases hq with q1 | ⟨q1, q2⟩
            all_goals
              go_wp2
              go_ret2
              exact ⟨ret_pair HV.out.1.symm HV.out.2.symm, Below.refl _ _⟩
          · have HN := Lib.hid (valN_next (restS s) k hlt)
            have HM := Lib.hid ((allB_take digB _ k hlt HA.out).trans hp)
            obtain ⟨b1, b2⟩ := digB_bd _ hp
            have b4 := valN_lt _ HA.out
            have b5 : ((restS s).data.toList.take k).length ≤ 9 := by rw [List.length_take]; omega
            have b6 : 10 ^ ((restS s).data.toList.take k).length ≤ 10 ^ 9 := Nat.pow_le_pow_right (by decide) b5
            have b3 : valN ((restS s).data.toList.take k) ≤ 999999999 := by omega
            clear b4 b5 b6 hp
            go_wp2
            go_round
            case rel => exact ⟨k + 1, by omega, by go_num, by rw [HN.out]; congr 1; omega, HM.out⟩
            case measure => simp [intOf]; omega
        · have hall : (restS s).data.toList.take k = (restS s).data.toList := List.take_of_length_le (by simp only [← Lib.size_eq]; omega)
          rw [hall] at HA ⊢
          have b := valN_small _ HA.out (by rw [← Lib.size_eq]; exact h2)
          clear hall
          by_cases g : Lib.itoa (-(valN (restS s).data.toList : Int)) = s.data.toList
          · have hS := numS_itn_yes s hn h1 h2 HA.out g
            have G := Lib.hid g
            clear g
            by_cases c : (2147483648 : Int) < valN (restS s).data.toList
            · rw [if_pos c] at hS
              rw [hS] at HV
              clear hS
              go_wp2_with fail
              refine (itoa_named _ _ (by omega) (by omega) ht).mono ?_
              rintro e w1 ⟨T, rfl, hT, hb⟩
              have e1 := str_eq hT.out G.out
              have e2 : (T.toList != s.toList) = false := by simp [bne, e1]
              go_wp2
              go_ret2
              exact ⟨ret_pair HV.out.1.symm HV.out.2.symm, hb⟩
            · rw [if_neg c] at hS
              rw [hS] at HV
              clear hS
              go_wp2_with fail
              refine (itoa_named _ _ (by omega) (by omega) ht).mono ?_
              rintro e w1 ⟨T, rfl, hT, hb⟩
              have e1 := str_eq hT.out G.out
              have e2 : (T.toList != s.toList) = false := by simp [bne, e1]
              go_wp2
              go_ret2
              exact ⟨ret_pair HV.out.1.symm HV.out.2.symm, hb⟩
          · have hS := numS_itn_no s hn h1 h2 HA.out g
            have G := Lib.hid g
            clear g
            rw [hS] at HV
            clear hS
            go_wp2_with fail
            refine (itoa_named _ _ (by omega) (by omega) ht).mono ?_
            rintro e w1 ⟨T, rfl, hT, hb⟩
            have e1 := str_ne hT.out G.out
            have e2 : (T.toList != s.toList) = true := by simp [bne, e1]
            go_wp2
            go_ret2
            exact ⟨ret_pair HV.out.1.symm HV.out.2.symm, hb⟩
    · have HF := Lib.hid (numS_bad s (plainS_short _ (Or.inr h2)))
      rw [HF.out] at HV
      go_enter Tryd.func23, Tryd.ntmps23
      go_wp2
      go_ret2
      exact ⟨ret_pair HV.out.1.symm HV.out.2.symm, Below.refl _ _⟩
  · have HF := Lib.hid (numS_bad s (plainS_short _ (Or.inl h1)))
    rw [HF.out] at HV
    go_enter Tryd.func23, Tryd.ntmps23
    go_wp2
    go_ret2
    exact ⟨ret_pair HV.out.1.symm HV.out.2.symm, Below.refl _ _⟩
theorem rnumber_pos (s : ByteArray) (w : World) (hs : s.size ≤ maxLen) (ht : Hid (Tab w)) (hn : negS s = false) :
    Calls Tryd.prog 23 #[.string s] w fun e w' => e = .returned (.tuple #[.int .i64 (numV s), .bool (numO s)]) ∧ Below w.heap.size w w' := by
  have hs' := hs
  unfold maxLen at hs'
  have HV : Hid (numV s = (numS s).getD 0 ∧ numO s = (numS s).isSome) := ⟨rfl, rfl⟩
  have HR := Lib.hid (rest_pos s hn)
  by_cases h1 : 1 ≤ s.size
  · have h45 := negS_no s hn h1
    by_cases h2 : s.size ≤ 10
    · go_enter Tryd.func23, Tryd.ntmps23
      go_wp2
      go_loop [6, 7] (fun n i => ∃ k : Nat, k ≤ s.size ∧ i = .int .i64 k ∧ n = .int .i64 (valN (s.data.toList.take k)) ∧ Hid (allB digB (s.data.toList.take k) = true)) (fun _ i => s.size - (intOf i).toNat)
      case atStart => exact ⟨0, Nat.zero_le _, rfl, rfl, allB_nil _⟩
      case round =>
        obtain ⟨k, hk, rfl, rfl, HA⟩ := hrel
        by_cases hlt : k < s.size
        · cases hp : digB (s[k].toNat : Int)
          · have HF := Lib.hid (numS_bad s (by rw [HR.out]; exact plainS_dig _ (allB_stop digB _ k hlt hp)))
            have hq := digB_no _ hp
            rw [HF.out] at HV
            rcases hq with q1 | ⟨q1, q2⟩
            all_goals
              go_wp2
              go_ret2
              exact ⟨ret_pair HV.out.1.symm HV.out.2.symm, Below.refl _ _⟩
          · have HN := Lib.hid (valN_next s k hlt)
            have HM := Lib.hid ((allB_take digB _ k hlt HA.out).trans hp)
            obtain ⟨b1, b2⟩ := digB_bd _ hp
            have b4 := valN_lt _ HA.out
            have b5 : (s.data.toList.take k).length ≤ 9 := by rw [List.length_take]; omega
            have b6 : 10 ^ (s.data.toList.take k).length ≤ 10 ^ 9 := Nat.pow_le_pow_right (by decide) b5
            have b3 : valN (s.data.toList.take k) ≤ 999999999 := by omega
            clear b4 b5 b6 hp
            go_wp2
            go_round
            case rel => exact ⟨k + 1, by omega, by go_num, by rw [HN.out]; congr 1; omega, HM.out⟩
            case measure => simp [intOf]; omega
        · have hall : s.data.toList.take k = s.data.toList := List.take_of_length_le (by simp only [← Lib.size_eq]; omega)
          rw [hall] at HA ⊢
          have b := valN_small _ HA.out (by rw [← Lib.size_eq]; exact h2)
          clear hall
          by_cases g : Lib.itoa (valN s.data.toList : Int) = s.data.toList
          · have hS := numS_itp_yes s hn (by rw [HR.out]; exact h1) (by rw [HR.out]; exact h2) (by rw [HR.out]; exact HA.out) (by rw [HR.out]; exact g)
            have G := Lib.hid g
            clear g
            by_cases c : (2147483647 : Int) < valN s.data.toList
            · rw [HR.out, if_pos c] at hS
              rw [hS] at HV
              clear hS
              go_wp2_with fail
              refine (itoa_named _ _ (by omega) (by omega) ht).mono ?_
              rintro e w1 ⟨T, rfl, hT, hb⟩
              have e1 := str_eq hT.out G.out
              have e2 : (T.toList != s.toList) = false := by simp [bne, e1]
              go_wp2
              go_ret2
              exact ⟨ret_pair HV.out.1.symm HV.out.2.symm, hb⟩
            · rw [HR.out, if_neg c] at hS
              rw [hS] at HV
              clear hS
              go_wp2_with fail
              refine (itoa_named _ _ (by omega) (by omega) ht).mono ?_
              rintro e w1 ⟨T, rfl, hT, hb⟩
              have e1 := str_eq hT.out G.out
              have e2 : (T.toList != s.toList) = false := by simp [bne, e1]
              go_wp2
              go_ret2
              exact ⟨ret_pair HV.out.1.symm HV.out.2.symm, hb⟩
          · have hS := numS_itp_no s hn (by rw [HR.out]; exact h1) (by rw [HR.out]; exact h2) (by rw [HR.out]; exact HA.out) (by rw [HR.out]; exact g)
            have G := Lib.hid g
            clear g
            rw [hS] at HV
            clear hS
            go_wp2_with fail
            refine (itoa_named _ _ (by omega) (by omega) ht).mono ?_
            rintro e w1 ⟨T, rfl, hT, hb⟩
            have e1 := str_ne hT.out G.out
            have e2 : (T.toList != s.toList) = true := by simp [bne, e1]
            go_wp2
            go_ret2
            exact ⟨ret_pair HV.out.1.symm HV.out.2.symm, hb⟩
    · have HF := Lib.hid (numS_bad s (by rw [HR.out]; exact plainS_short _ (Or.inr h2)))
      rw [HF.out] at HV
      go_enter Tryd.func23, Tryd.ntmps23
      go_wp2
      go_ret2
      exact ⟨ret_pair HV.out.1.symm HV.out.2.symm, Below.refl _ _⟩
  · have HF := Lib.hid (numS_bad s (by rw [HR.out]; exact plainS_short _ (Or.inl h1)))
    rw [HF.out] at HV
    go_enter Tryd.func23, Tryd.ntmps23
    go_wp2
    go_ret2
    exact ⟨ret_pair HV.out.1.symm HV.out.2.symm, Below.refl _ _⟩
theorem rnumber_any (s : ByteArray) (w : World) (hs : s.size ≤ maxLen) (ht : Hid (Tab w)) :
    Calls Tryd.prog 23 #[.string s] w fun e w' => e = .returned (.tuple #[.int .i64 (numV s), .bool (numO s)]) ∧ Below w.heap.size w w' := by
  cases hn : negS s
  · exact rnumber_pos s w hs ht hn
  · exact rnumber_neg s w hs ht hn
end Go.Proofs.YtaldnigdgnhodaaDoor
