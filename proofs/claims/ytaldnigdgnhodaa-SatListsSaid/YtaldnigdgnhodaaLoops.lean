/- Layer 1's loops: Sum over a slice, and the walks of the statements SatLists and SatClock. -/
import Derived.Test.YtaldnigdgnhodaaLaw
namespace Go.Proofs.Ytaldnigdgnhodaa
open Go.RowKit M
theorem sum_zero (a : Option Addr) (cap : Nat) (w : World) : Calls Try.prog 21 #[.slice a 0 cap] w fun e w' => e = .returned (.int .i64 0) ∧ w = w' := by
  go_enter Try.func21, Try.ntmps21
  go_wp2
  go_loop [3, 8] (fun s i => s = .int .i64 0 ∧ i = .int .i64 0) (fun _ _ => 0)
  case atStart => exact ⟨rfl, rfl⟩
  case round =>
    obtain ⟨rfl, rfl⟩ := hrel
    go_wp2
    go_ret
    exact ⟨rfl, rfl⟩
theorem take_next (zs : List Int) (k : Nat) (h : k < zs.length) : zs.take (k + 1) = zs.take k ++ [zs.getD k 0] := by
  rw [List.take_succ_eq_append_getElem h]; simp [List.getD, List.getElem?_eq_getElem h]
theorem sums_next (zs : List Int) (k : Nat) (h : k < zs.length) : sums (zs.take (k + 1)) = st (st (sums (zs.take k)) + st (zs.getD k 0)) := by
  rw [take_next zs k h, sums_snoc]
theorem sum_row (b off len cap : Nat) (zs : List Int) (w : World) (hl : len ≤ zs.length) (hm : len ≤ maxLen)
    (hcell : ∀ i, i < len → w.cell? ⟨b, off + i, none⟩ = some (.int .i64 (zs.getD i 0))) :
    Calls Try.prog 21 #[.slice (some ⟨b, off, none⟩) len cap] w fun e w' => e = .returned (.int .i64 (sums (zs.take len))) ∧ w = w' := by
  unfold maxLen at hm
  have HC := Lib.hid hcell
  clear hcell
  go_enter Try.func21, Try.ntmps21
  go_wp2
  go_loop [3, 8] (fun s i => ∃ k : Nat, k ≤ len ∧ i = .int .i64 k ∧ s = .int .i64 (sums (zs.take k))) (fun _ i => len - (intOf i).toNat)
  case atStart => exact ⟨0, Nat.zero_le _, rfl, rfl⟩
  case round =>
    obtain ⟨k, hk, rfl, rfl⟩ := hrel
    by_cases hlt : k < len
    · have hc := HC.out k hlt
      have HS := Lib.hid (sums_next zs k (by omega))
      go_wp2_with (go_at_call 11; refine (add_any _ _ _).mono ?_; rintro e w' ⟨rfl, rfl⟩)
      go_round
      case rel => exact ⟨k + 1, by omega, by go_num, by rw [HS.out]; simp⟩
      case measure => simp [intOf]; omega
    · go_wp2
      go_ret
      exact ⟨ret_int (by rw [show k = len by omega]), rfl⟩
/-- the body of SatLists behind its cut to 100: the loop and the comparison. -/
theorem satLists_small (b off len cap : Nat) (zs : List Int) (w : World) (h0 : 0 < len) (hl : len ≤ zs.length) (h100 : len ≤ 100)
    (hcell : ∀ i, i < len → w.cell? ⟨b, off + i, none⟩ = some (.int .i64 (zs.getD i 0))) :
    Calls Try.prog 5 #[.slice (some ⟨b, off, none⟩) len cap] w fun e w' => e = .returned (.bool true) ∧ w = w' := by
  have HR := Lib.hid (sum_row b off len cap zs w hl (by unfold maxLen; omega) hcell)
  have HC := Lib.hid hcell
  clear hcell
  go_enter Try.func5, Try.ntmps5
  go_wp2_with (go_at_call 8; refine (awake_any _).mono ?_; rintro e w' ⟨rfl, rfl⟩)
  go_loop [3, 15] (fun s i => ∃ k : Nat, k ≤ len ∧ i = .int .i64 k ∧ s = .int .i64 (sums (zs.take k))) (fun _ i => len - (intOf i).toNat)
  case atStart => exact ⟨0, Nat.zero_le _, rfl, rfl⟩
  case round =>
    obtain ⟨k, hk, rfl, rfl⟩ := hrel
    by_cases hlt : k < len
    · have hc := HC.out k hlt
      have HS := Lib.hid (sums_next zs k (by omega))
      go_wp2_with (go_at_call 12; refine (radd_any _ _ _).mono ?_; rintro e w' ⟨rfl, rfl⟩)
      go_round
      case rel => exact ⟨k + 1, by omega, by go_num, by rw [HS.out]; simp⟩
      case measure => simp [intOf]; omega
    · obtain rfl : k = len := by omega
      go_wp2_with (first | (go_at_call 21; (with_reducible refine (sum_zero _ _ _).mono ?_); rintro e w' ⟨rfl, rfl⟩) | (go_at_call 21; (with_reducible refine HR.out.mono ?_); rintro e w' ⟨rfl, rfl⟩))
      go_ret
      exact ⟨rfl, rfl⟩
theorem satLists_great (b off len cap : Nat) (zs : List Int) (w : World) (hl : len ≤ zs.length) (hcap : len ≤ cap) (h100 : 100 < len) (hm : cap ≤ maxLen)
    (hcell : ∀ i, i < len → w.cell? ⟨b, off + i, none⟩ = some (.int .i64 (zs.getD i 0))) :
    Calls Try.prog 5 #[.slice (some ⟨b, off, none⟩) len cap] w fun e w' => e = .returned (.bool true) ∧ w = w' := by
  unfold maxLen at hm
  have hd : decide ((100 : Int) < (len : Int)) = true := by simp; omega
  have HR := Lib.hid (sum_row b off 100 cap zs w (by omega) (by unfold maxLen; omega) (fun i hi => hcell i (by omega)))
  have HC := Lib.hid hcell
  clear hcell
  go_enter Try.func5, Try.ntmps5
  go_wp2_with (go_at_call 8; refine (awake_any _).mono ?_; rintro e w' ⟨rfl, rfl⟩)
  go_loop [3, 15] (fun s i => ∃ k : Nat, k ≤ 100 ∧ i = .int .i64 k ∧ s = .int .i64 (sums (zs.take k))) (fun _ i => 100 - (intOf i).toNat)
  case atStart => exact ⟨0, Nat.zero_le _, rfl, rfl⟩
  case round =>
    obtain ⟨k, hk, rfl, rfl⟩ := hrel
    by_cases hlt : k < 100
    · have hc := HC.out k (by omega)
      have HS := Lib.hid (sums_next zs k (by omega))
      go_wp2_with (go_at_call 12; refine (radd_any _ _ _).mono ?_; rintro e w' ⟨rfl, rfl⟩)
      go_round
      case rel => exact ⟨k + 1, by omega, by go_num, by rw [HS.out]; simp⟩
      case measure => simp [intOf]; omega
    · obtain rfl : k = 100 := by omega
      go_wp2_with (first | (go_at_call 21; (with_reducible refine (sum_zero _ _ _).mono ?_); rintro e w' ⟨rfl, rfl⟩) | (go_at_call 21; (with_reducible refine HR.out.mono ?_); rintro e w' ⟨rfl, rfl⟩))
      go_ret
      exact ⟨rfl, rfl⟩
theorem satLists_zero (a : Option Addr) (cap : Nat) (w : World) :
    Calls Try.prog 5 #[.slice a 0 cap] w fun e w' => e = .returned (.bool true) ∧ w = w' := by
  go_enter Try.func5, Try.ntmps5
  go_wp2_with (go_at_call 8; refine (awake_any _).mono ?_; rintro e w' ⟨rfl, rfl⟩)
  go_loop [3, 15] (fun s i => s = .int .i64 0 ∧ i = .int .i64 0) (fun _ _ => 0)
  case atStart => exact ⟨rfl, rfl⟩
  case round =>
    obtain ⟨rfl, rfl⟩ := hrel
    go_wp2_with (go_at_call 21; (with_reducible refine (sum_zero _ _ _).mono ?_); rintro e w' ⟨rfl, rfl⟩)
    go_ret
    exact ⟨rfl, rfl⟩
theorem clock_any (x : Int) (w : World) :
    Calls Try.prog 26 #[.int .i64 x] w fun e w' => e = .returned (.int .i64 (ck x)) ∧ w = w' := by
  go_enter Try.func26, Try.ntmps26
  go_wp2_with (go_at_call 22; refine (clip_any _ _ _ _).mono ?_; rintro e w' ⟨rfl, rfl⟩)
  go_ret
  exact ⟨rfl, rfl⟩
theorem later_any (a b : Int) (w : World) :
    Calls Try.prog 23 #[.int .i64 a, .int .i64 b] w fun e w' => e = .returned (.int .i64 (lat a b)) ∧ w = w' := by
  have a1 := ck_lo a; have a2 := ck_hi a; have b1 := ck_lo b; have b2 := ck_hi b
  go_enter Try.func23, Try.ntmps23
  go_wp2_with (go_at_call 26; refine (clock_any _ _).mono ?_; rintro e w' ⟨rfl, rfl⟩)
  all_goals
    go_ret
    exact ⟨ret_int (by unfold lat; omega), rfl⟩
theorem rlater_any (a b : Int) (w : World) :
    Calls Try.prog 24 #[.int .i64 a, .int .i64 b] w fun e w' => e = .returned (.int .i64 (lat a b)) ∧ w = w' := by
  by_cases h1 : a < 0 <;> by_cases h2 : b < 0 <;> by_cases h3 : 1099511627776 ≤ a <;> by_cases h4 : 1099511627776 ≤ b <;> by_cases h5 : 1099511627776 ≤ a + b
  all_goals
    first
    | (exfalso; omega)
    | (go_enter Try.func24, Try.ntmps24
       go_wp2
       all_goals
         go_ret
         exact ⟨ret_int (by unfold lat ck; omega), rfl⟩)
theorem satClock_any (a : Option Addr) (now : Int) (len cap : Nat) (zs : List Int) (w : World)
    (hcell : ∀ i, i < len → ∃ b off, a = some ⟨b, off, none⟩ ∧ w.cell? ⟨b, off + i, none⟩ = some (.int .i64 (zs.getD i 0))) :
    Calls Try.prog 7 #[.int .i64 now, .slice a len cap] w fun e w' => e = .returned (.bool true) ∧ w = w' := by
  have HC := Lib.hid hcell
  clear hcell
  go_enter Try.func7, Try.ntmps7
  go_wp2_with (first | (go_at_call 8; refine (awake_any _).mono ?_; rintro e w' ⟨rfl, rfl⟩) | (go_at_call 23; refine (later_any _ _ _).mono ?_; rintro e w' ⟨rfl, rfl⟩) | (go_at_call 24; refine (rlater_any _ _ _).mono ?_; rintro e w' ⟨rfl, rfl⟩))
  go_loop [5, 6, 7] (fun t n i => ∃ (k : Nat) (c : Int), k ≤ len ∧ k ≤ 50 ∧ 0 ≤ c ∧ c ≤ 1099511627776 ∧ i = .int .i64 k ∧ t = .int .i64 c ∧ n = .int .i64 c) (fun _ _ i => 50 - (intOf i).toNat)
  case atStart => exact ⟨0, _, Nat.zero_le _, by omega, lat_lo _ _, lat_hi _ _, rfl, rfl, rfl⟩
  case round =>
    obtain ⟨k, c, hk, hk5, c0, c1, rfl, rfl, rfl⟩ := hrel
    by_cases hlt : k < len
    · by_cases h50 : k < 50
      · obtain ⟨b, off, rfl, hc⟩ := HC.out k hlt
        have l1 := lat_lo c (zs[k]?.getD 0)
        have l2 := lat_hi c (zs[k]?.getD 0)
        have l3 := lat_ge c (zs[k]?.getD 0) c0 c1
        go_wp2_with (first | (go_at_call 23; refine (later_any _ _ _).mono ?_; rintro e w' ⟨rfl, rfl⟩) | (go_at_call 24; refine (rlater_any _ _ _).mono ?_; rintro e w' ⟨rfl, rfl⟩))
        go_round
        case rel => exact ⟨k + 1, _, by omega, by omega, l1, l2, by go_num, by simp, by simp⟩
        case measure => simp [intOf]; omega
      · go_wp2
        go_ret
        exact ⟨rfl, rfl⟩
    · go_wp2
      go_ret
      exact ⟨rfl, rfl⟩
end Go.Proofs.Ytaldnigdgnhodaa
