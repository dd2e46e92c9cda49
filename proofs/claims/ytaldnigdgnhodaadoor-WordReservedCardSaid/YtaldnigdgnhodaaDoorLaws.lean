/- The walks of layer 2's statements on numbers and on reserved names: each call returns true and leaves alone what was there, in every world that holds the library's table of powers of ten. -/
import Derived.Test.YtaldnigdgnhodaaDoorLaw
namespace Go.Proofs.YtaldnigdgnhodaaDoor
open Go.RowKit M
theorem digits_named (n : Int) (w : World) (h0 : -9223372036854775808 ≤ n) (h1 : n ≤ 9223372036854775807) (ht : Hid (Tab w)) :
    Calls Tryd.prog 24 #[.int .i64 n] w fun e w' => ∃ T : ByteArray, e = .returned (.string T) ∧ Hid (T.data.toList = Lib.itoa n) ∧ Below w.heap.size w w' :=
  (digits_any n w h0 h1 ht).mono fun _ _ h => ⟨_, h.1, rfl, h.2⟩
theorem step_below {w a b : World} (h : Hid (Below w.heap.size w a)) (k : Below a.heap.size a b) : Hid (Below w.heap.size w b) := h.out.trans (k.mono h.out.size)
theorem wordNumbers_any (s : ByteArray) (w : World) (hs : s.size ≤ maxLen) (ht : Hid (Tab w)) :
    Calls Tryd.prog 5 #[.string s] w fun e w' => e = .returned (.bool true) ∧ Below w.heap.size w w' := by
  have hc : (cutS s 14).size ≤ maxLen := Nat.le_trans (cutS_le s 14) hs
  have C0 : Hid (∀ w, Calls Tryd.prog 9 #[.string s, .int .i64 14] w fun e w' => e = .returned (.string (cutS s 14)) ∧ w = w') := fun w => cut_any s 14 w (by decide)
  have HV : Hid (numV (cutS s 14) = (numS (cutS s 14)).getD 0 ∧ numO (cutS s 14) = (numS (cutS s 14)).isSome) := ⟨rfl, rfl⟩
  cases hn : numS (cutS s 14) with
  | none =>
    rw [hn] at HV
    have ho : numO (cutS s 14) = false := HV.out.2
    clear hn
    go_enter Tryd.func5, Tryd.ntmps5
    go_wp2_with (first | (go_at_call 8; refine (awake_any _ ht).mono ?_; rintro e w1 ⟨rfl, hb⟩; have HT := tab_below ht hb; have HB := Lib.hid hb; clear hb) | (go_at_call 9; refine (C0.out _).mono ?_; rintro e w' ⟨rfl, rfl⟩) | (go_at_call 22; refine (number_any _ _ hc).mono ?_; rintro e w' ⟨rfl, rfl⟩) | (go_at_call 23; refine (rnumber_any _ _ hc HT).mono ?_; rintro e w2 ⟨rfl, hb2⟩; have HB2 := step_below HB hb2; clear hb2))
    go_ret
    exact ⟨rfl, HB2.out⟩
  | some n =>
    obtain ⟨i1, i2, i3⟩ := itoa_num _ n hn
    rw [hn] at HV
    have ho : numO (cutS s 14) = true := HV.out.2
    have hv : numV (cutS s 14) = n := HV.out.1
    have CN : Hid (∀ w, Calls Tryd.prog 22 #[.string (cutS s 14)] w fun e w' => e = .returned (.tuple #[.int .i64 n, .bool true]) ∧ w = w') := by
      intro w
      have h := number_any (cutS s 14) w hc
      rw [ho, hv] at h
      exact h
    have CR : Hid (∀ w, Hid (Tab w) → Calls Tryd.prog 23 #[.string (cutS s 14)] w fun e w' => e = .returned (.tuple #[.int .i64 n, .bool true]) ∧ Below w.heap.size w w') := by
      intro w ht
      have h := rnumber_any (cutS s 14) w hc ht
      rw [ho, hv] at h
      exact h
    have HI := Lib.hid i1
    clear hn ho hv i1
    go_enter Tryd.func5, Tryd.ntmps5
    go_wp2_with (first | (go_at_call 8; refine (awake_any _ ht).mono ?_; rintro e w1 ⟨rfl, hb⟩; have HT := tab_below ht hb; have HB := Lib.hid hb; clear hb) | (go_at_call 9; refine (C0.out _).mono ?_; rintro e w' ⟨rfl, rfl⟩) | (go_at_call 22; refine (CN.out _).mono ?_; rintro e w' ⟨rfl, rfl⟩) | (go_at_call 23; refine (CR.out _ HT).mono ?_; rintro e w2 ⟨rfl, hb2⟩; have HB2 := step_below HB hb2; have HT2 := tab_below HT hb2; clear hb2) | (go_at_call 24; refine (digits_named _ _ (by omega) (by omega) HT2).mono ?_; rintro e w3 ⟨T, rfl, hT, hb3⟩; have HB3 := step_below HB2 hb3; have hq := str_eq hT.out HI.out; clear hb3))
    go_ret
    exact ⟨rfl, HB3.out⟩
theorem wordDigits_any (n : Int) (w : World) (h0 : -9223372036854775808 ≤ n) (h1 : n ≤ 9223372036854775807) (ht : Hid (Tab w)) :
    Calls Tryd.prog 6 #[.int .i64 n] w fun e w' => e = .returned (.bool true) ∧ Below w.heap.size w w' := by
  have hm : (Lib.itoa n).length ≤ maxLen := by
    have : (Lib.itoa n).length ≤ 20 := by
      unfold Lib.itoa
      split
      · have := dec_len 18 n.natAbs (by omega)
        simp; omega
      · have := dec_len 18 n.toNat (by omega)
        omega
    unfold maxLen; omega
  have HM := Lib.hid hm
  clear hm
  by_cases hr : n < -2147483648 ∨ 2147483647 < n
  · have HR := Lib.hid hr
    have hcase : n < -2147483648 ∨ (-2147483648 ≤ n ∧ 2147483647 < n) := by omega
    clear hr
    rcases hcase with r1 | ⟨r1, r2⟩
    all_goals
      go_enter Tryd.func6, Tryd.ntmps6
      go_wp2_with (first | (go_at_call 8; refine (awake_any _ ht).mono ?_; rintro e w1 ⟨rfl, hb⟩; have HT := tab_below ht hb; have HB := Lib.hid hb; clear hb) | (go_at_call 24; refine (digits_named _ _ h0 h1 HT).mono ?_; rintro e w3 ⟨T, rfl, hT, hb3⟩; have HB3 := step_below HB hb3; clear hb3; have HN := Lib.hid (num_out n T HR.out hT.out); have hsz : T.size ≤ maxLen := (by rw [Lib.size_eq, hT.out]; exact HM.out); have ho : numO T = false := (by unfold numO; rw [HN.out]; rfl); have hv : numV T = 0 := (by unfold numV; rw [HN.out]; rfl); have hemp : T.toList.isEmpty = false := (by rw [Lib.toList_data, hT.out]; have := itoa_ne n; cases hh : Lib.itoa n with | nil => exact absurd hh this | cons a r => rfl)) | (go_at_call 22; refine (number_any _ _ hsz).mono ?_; rintro e w' ⟨rfl, rfl⟩))
      go_ret
      exact ⟨rfl, HB3.out⟩
  · have r1 : -2147483648 ≤ n := by omega
    have r2 : n ≤ 2147483647 := by omega
    clear hr
    go_enter Tryd.func6, Tryd.ntmps6
    go_wp2_with (first | (go_at_call 8; refine (awake_any _ ht).mono ?_; rintro e w1 ⟨rfl, hb⟩; have HT := tab_below ht hb; have HB := Lib.hid hb; clear hb) | (go_at_call 24; refine (digits_named _ _ h0 h1 HT).mono ?_; rintro e w3 ⟨T, rfl, hT, hb3⟩; have HB3 := step_below HB hb3; clear hb3; have HN := Lib.hid (num_itoa n T r1 r2 hT.out); have hsz : T.size ≤ maxLen := (by rw [Lib.size_eq, hT.out]; exact HM.out); have ho : numO T = true := (by unfold numO; rw [HN.out]; rfl); have hv : numV T = n := (by unfold numV; rw [HN.out]; rfl)) | (go_at_call 22; refine (number_any _ _ hsz).mono ?_; rintro e w' ⟨rfl, rfl⟩))
    go_ret
    exact ⟨rfl, HB3.out⟩
def resNames : List ByteArray := [⟨#[116, 45, 103, 104, 111, 115, 116]⟩, ⟨#[116, 45, 101, 110, 116, 101, 114, 45, 102, 114, 111, 109]⟩, ⟨#[116, 45, 101, 110, 116, 101, 114, 45, 97, 99, 116, 105, 118, 101]⟩, ⟨#[116, 45, 101, 110, 116, 101, 114, 45, 116, 111]⟩, ⟨#[116, 45, 108, 101, 97, 118, 101, 45, 102, 114, 111, 109]⟩, ⟨#[116, 45, 108, 101, 97, 118, 101, 45, 97, 99, 116, 105, 118, 101]⟩, ⟨#[116, 45, 108, 101, 97, 118, 101, 45, 116, 111]⟩, ⟨#[116, 45, 119, 97, 105, 116]⟩, ⟨#[116, 45, 104, 111, 108, 100]⟩, ⟨#[116, 45, 109, 111, 118, 101]⟩, ⟨#[116, 45, 100, 120]⟩, ⟨#[116, 45, 100, 121]⟩]
def resAt (k : Nat) : ByteArray := resNames.getD k ⟨#[]⟩
theorem res_good : ((List.range 12).all fun k => nameS (resAt k) && Lib.hasPrefix (resAt k).data.toList [116, 45] && decide (chkS (resAt k) = 6) && decide ((resAt k).size ≤ 16)) = true := by decide +kernel
theorem res_at (k : Nat) (h : k < 12) : nameS (resAt k) = true ∧ Lib.hasPrefix (resAt k).data.toList [116, 45] = true ∧ chkS (resAt k) = 6 ∧ (resAt k).size ≤ 16 := by
  have := List.all_eq_true.1 res_good k (List.mem_range.2 h)
  simp only [Bool.and_eq_true, decide_eq_true_eq] at this
  exact ⟨this.1.1.1, this.1.1.2, this.1.2, this.2⟩
def resRow : Array Value := #[.string ⟨#[116, 45, 103, 104, 111, 115, 116]⟩, .string ⟨#[116, 45, 101, 110, 116, 101, 114, 45, 102, 114, 111, 109]⟩, .string ⟨#[116, 45, 101, 110, 116, 101, 114, 45, 97, 99, 116, 105, 118, 101]⟩, .string ⟨#[116, 45, 101, 110, 116, 101, 114, 45, 116, 111]⟩, .string ⟨#[116, 45, 108, 101, 97, 118, 101, 45, 102, 114, 111, 109]⟩, .string ⟨#[116, 45, 108, 101, 97, 118, 101, 45, 97, 99, 116, 105, 118, 101]⟩, .string ⟨#[116, 45, 108, 101, 97, 118, 101, 45, 116, 111]⟩, .string ⟨#[116, 45, 119, 97, 105, 116]⟩, .string ⟨#[116, 45, 104, 111, 108, 100]⟩, .string ⟨#[116, 45, 109, 111, 118, 101]⟩, .string ⟨#[116, 45, 100, 120]⟩, .string ⟨#[116, 45, 100, 121]⟩]
theorem res_cells (w : World) (k : Nat) (h : k < 12) : (w.alloc (.cells resRow 9 (0, 0))).cell? ⟨w.heap.size, k, none⟩ = some (.string (resAt k)) := by
  have e : resRow[k]? = some (.string (resAt k)) := by
    rcases k with _ | _ | _ | _ | _ | _ | _ | _ | _ | _ | _ | _ | k
    all_goals first | rfl | (exfalso; omega)
  rw [World.cell?_alloc_new]; exact e
theorem tpre (t : ByteArray) : Lib.hasPrefix ((⟨#[116, 45]⟩ : ByteArray) ++ t).data.toList [116, 45] = true := by
  simp [Lib.hasPrefix]
theorem tchk (t : ByteArray) : (chkS ((⟨#[116, 45]⟩ : ByteArray) ++ t) != 0) = true := by
  unfold chkS
  rw [tpre]
  split <;> rfl
theorem tsize (t : ByteArray) (h : t.size ≤ 14) : ((⟨#[116, 45]⟩ : ByteArray) ++ t).size ≤ maxLen := by
  rw [ByteArray.size_append]
  unfold maxLen
  have : (⟨#[116, 45]⟩ : ByteArray).size = 2 := rfl
  omega
theorem wordReserved_any (s : ByteArray) (w : World) (ht : Hid (Tab w)) :
    Calls Tryd.prog 7 #[.string s] w fun e w' => e = .returned (.bool true) ∧ Below w.heap.size w w' := by
  have hc : (cutS s 14).size ≤ 14 := cutS_le2 s 14
  have C0 : Hid (∀ w, Calls Tryd.prog 9 #[.string s, .int .i64 14] w fun e w' => e = .returned (.string (cutS s 14)) ∧ w = w') := fun w => cut_any s 14 w (by decide)
  have hT := tsize (cutS s 14) hc
  have hP := tpre (cutS s 14)
  have hK := Lib.hid (tchk (cutS s 14))
  have HT := Lib.hid hT
  clear hT
  go_enter Tryd.func7, Tryd.ntmps7
  go_wp2_with (first | (go_at_call 8; refine (awake_any _ ht).mono ?_; rintro e w1 ⟨rfl, hb⟩; have HB := Lib.hid hb; clear hb))
  obtain ⟨w2, hw2⟩ : ∃ w2, w2 = w1.alloc (.cells resRow 9 (0, 0)) := ⟨_, rfl⟩
  have HC : Hid (∀ k, k < 12 → w2.cell? ⟨w1.heap.size, k, none⟩ = some (.string (resAt k))) := by rw [hw2]; exact res_cells w1
  have HB2 : Hid (Below w.heap.size w w2) := by rw [hw2]; exact HB.out.alloc HB.out.size _
  unfold resRow at hw2
  rw [← hw2]
  clear hw2
  go_loop [10] (fun i => ∃ k : Nat, k ≤ 12 ∧ i = .int .i64 k) (fun i => 12 - (intOf i).toNat)
  case atStart => exact ⟨0, by omega, rfl⟩
  case round =>
    obtain ⟨k, hk, rfl⟩ := hrel
    by_cases hlt : k < 12
    · have hcell := HC.out k hlt
      obtain ⟨g1, g2, g3, g4⟩ := res_at k hlt
      have hsz : (resAt k).size ≤ maxLen := by unfold maxLen; omega
      go_wp2_with (first | (go_at_call 10; refine (name_any _ _ hsz).mono ?_; rintro e w' ⟨rfl, rfl⟩) | (go_at_call 11; refine (rname_any _ _ hsz).mono ?_; rintro e w' ⟨rfl, rfl⟩) | (go_at_call 18; refine (check_any _ _ hsz).mono ?_; rintro e w' ⟨rfl, rfl⟩) | (go_at_call 20; refine (reserved_any _ _).mono ?_; rintro e w' ⟨rfl, rfl⟩))
      go_round
      case rel => exact ⟨k + 1, by omega, by go_num⟩
      case measure => simp [intOf]; omega
    · have hK' := hK.out
      go_wp2_with (first | (go_at_call 9; refine (C0.out _).mono ?_; rintro e w' ⟨rfl, rfl⟩) | (go_at_call 18; refine (check_any _ _ HT.out).mono ?_; rintro e w' ⟨rfl, rfl⟩) | (go_at_call 20; refine (reserved_any _ _).mono ?_; rintro e w' ⟨rfl, rfl⟩))
      go_ret
      exact ⟨rfl, HB2.out⟩
end Go.Proofs.YtaldnigdgnhodaaDoor
