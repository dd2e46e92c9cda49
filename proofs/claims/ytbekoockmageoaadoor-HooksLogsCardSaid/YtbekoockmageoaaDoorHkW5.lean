/- Where hooks lead, one behind the other, by the program and by the document. -/
import Derived.Test.YtbekoockmageoaaDoorHkW3
namespace Go.Proofs.YtbekoockmageoaaDoor
open Go.RowKit Hk
/-- numbers as cells -/
def iv (l : List Int) : List Value := l.map (Value.int .i64)
def ats (l : List Int) (i : Nat) : Int := l.getD i 0
theorem iv_len (l : List Int) : (iv l).length = l.length := by simp [iv]
theorem iv_at (l : List Int) (k : Nat) (h : k < l.length) : (iv l)[k]? = some (.int .i64 (ats l k)) := by simp [iv, ats, h]
theorem iv_take (l : List Int) (k : Nat) : iv (l.take k) = (iv l).take k := by simp [iv, List.map_take]
theorem take_ats (l : List Int) (k : Nat) (h : k < l.length) : l.take (k + 1) = l.take k ++ [ats l k] := by
  rw [List.take_succ_eq_append_getElem h]
  simp [ats, h]
theorem run_low (l : List Int) : ∀ s, -1 ≤ s → -1 ≤ run s l := by
  induction l with
  | nil => intro s hs; exact hs
  | cons h l ih => intro s _; exact ih (nx s h) (nx_range s h).1
theorem run_next (l : List Int) (k : Nat) (h : k < l.length) : run 0 (l.take (k + 1)) = nx (run 0 (l.take k)) (ats l k) := by rw [take_ats l k h, run_snoc]
set_option maxHeartbeats 1000000 in
set_option maxRecDepth 100000 in
theorem run_any (A : Option Addr) (n c : Nat) (l : List Int) (w : World) (hn : n = l.length) (hb : n ≤ maxLen) (ha : At w A (iv l)) (ht : TrIs w) :
    Calls Tryd.prog 13 #[.slice A n c] w fun e w' => e = .returned (.int .i64 (run 0 l)) ∧ Below w.heap.size w w' := by
  unfold maxLen at hb
  have HN := Lib.hid hn
  have HA := Lib.hid ha
  have HT := Lib.hid ht
  clear hn ha ht
  go_enter Tryd.func13, Tryd.ntmps13
  go_wp2
  go_loopw [3, 8] (fun v i wr => ∃ k : Nat, k ≤ n ∧ i = .int .i64 k ∧ (∃ s, v = .int .i64 s ∧ Hid (s = run 0 (l.take k))) ∧ Below w.heap.size w wr) (fun _ i _ => n - (intOf i).toNat)
  case atStart => exact ⟨0, Nat.zero_le _, rfl, ⟨0, rfl, by rw [List.take_zero]; rfl⟩, Below.refl _ _⟩
  case round =>
    obtain ⟨k, hk, rfl, ⟨s, rfl, hs⟩, hbel⟩ := hrel
    have HB := Lib.hid hbel
    by_cases hlt : k < n
    · have hk1 : k < l.length := by have := HN.out; omega
      obtain ⟨b1, o1, rfl, hb1, hc1⟩ := HA.out.one (iv_at l k hk1)
      have hc := (below_cells hbel).1 b1 (o1 + k) hb1
      rw [hc1] at hc
      have HR := Lib.hid (run_next l k hk1)
      generalize ats l k = h at hc HR
      clear hc1 hbel
      go_wp2_with fail
      with_reducible refine (next_any _ _ _ (HT.out.below HB.out)).mono ?_
      rintro e w6 ⟨rfl, hb6⟩
      have HB6 := Lib.hid (HB.out.trans (hb6.mono HB.out.size))
      clear hb6
      go_wp2
      go_roundw
      case rel => exact ⟨k + 1, by omega, by go_num, ⟨_, rfl, by show _ = _; rw [HR.out, hs.out]⟩, HB6.out⟩
      case measure => simp [intOf]; omega
    · obtain rfl : k = n := by omega
      clear hbel
      go_wp2
      go_ret
      exact ⟨ret_int' (by rw [hs.out, List.take_of_length_le (by rw [HN.out]; exact Nat.le_refl _)]), HB.out⟩
set_option maxHeartbeats 1000000 in
set_option maxRecDepth 100000 in
theorem rrun_any (A : Option Addr) (n c : Nat) (l : List Int) (w : World) (hn : n = l.length) (hb : n ≤ maxLen) (ha : At w A (iv l)) :
    Calls Tryd.prog 14 #[.slice A n c] w fun e w' => e = .returned (.int .i64 (run 0 l)) ∧ Below w.heap.size w w' := by
  unfold maxLen at hb
  have HN := Lib.hid hn
  have HA := Lib.hid ha
  clear hn ha
  go_enter Tryd.func14, Tryd.ntmps14
  go_wp2
  go_loopw [3, 8] (fun v i wr => ∃ k : Nat, k ≤ n ∧ i = .int .i64 k ∧ (∃ s, v = .int .i64 s ∧ Hid (s = run 0 (l.take k))) ∧ Below w.heap.size w wr) (fun _ i _ => n - (intOf i).toNat)
  case atStart => exact ⟨0, Nat.zero_le _, rfl, ⟨0, rfl, by rw [List.take_zero]; rfl⟩, Below.refl _ _⟩
  case round =>
    obtain ⟨k, hk, rfl, ⟨s, rfl, hs⟩, hbel⟩ := hrel
    have HB := Lib.hid hbel
    by_cases hlt : k < n
    · have hk1 : k < l.length := by have := HN.out; omega
      obtain ⟨b1, o1, rfl, hb1, hc1⟩ := HA.out.one (iv_at l k hk1)
      have hc := (below_cells hbel).1 b1 (o1 + k) hb1
      rw [hc1] at hc
      have HR := Lib.hid (run_next l k hk1)
      generalize ats l k = h at hc HR
      clear hc1 hbel
      by_cases h0 : 0 ≤ s
      · go_wp2_with fail
        with_reducible refine (rnext_any _ _ _).mono ?_
        rintro e w6 ⟨rfl, hb6⟩
        have HB6 := Lib.hid (HB.out.trans (hb6.mono HB.out.size))
        clear hb6
        go_wp2
        go_roundw
        case rel => exact ⟨k + 1, by omega, by go_num, ⟨_, rfl, by show _ = _; rw [HR.out, hs.out]⟩, HB6.out⟩
        case measure => simp [intOf]; omega
      · have HS1 : Hid (s = run 0 (l.take (k + 1))) := by
          show _ = _
          have h1 := hs.out
          have h2 := run_low (l.take k) 0 (by omega)
          rw [HR.out, nx_neg _ _ (by omega)]
          omega
        go_wp2
        go_roundw
        case rel => exact ⟨k + 1, by omega, by go_num, ⟨_, rfl, HS1⟩, HB.out⟩
        case measure => simp [intOf]; omega
    · obtain rfl : k = n := by omega
      clear hbel
      go_wp2
      go_ret
      exact ⟨ret_int' (by rw [hs.out, List.take_of_length_le (by rw [HN.out]; exact Nat.le_refl _)]), HB.out⟩
end Go.Proofs.YtbekoockmageoaaDoor
