/- The names of hooks, by the program and by the document. -/
import Derived.Test.YtbekoockmageoaaDoorHkW2
namespace Go.Proofs.YtbekoockmageoaaDoor
open Go.RowKit Hk
theorem nameB_out (h : Int) (hh : ¬ (0 ≤ h ∧ h ≤ 8)) : nameB h = ⟨#[]⟩ := by unfold nameB; rw [if_neg hh]
theorem nameB_in (k : Nat) (hk : k < 9) : nameB (k : Int) = nmb.getD k ⟨#[]⟩ := by unfold nameB; rw [if_pos ⟨by omega, by omega⟩]; rfl
set_option maxHeartbeats 1000000 in
set_option maxRecDepth 100000 in
theorem name_any (h : Int) (w : World) (ht : NmIs w) : Calls Tryd.prog 11 #[.int .i64 h] w fun e w' => e = .returned (.string (nameB h)) ∧ w = w' := by
  by_cases h0 : h < 0
  · have HO := Lib.hid (nameB_out h (by omega))
    clear ht
    go_enter Tryd.func11, Tryd.ntmps11
    go_wp2
    go_ret
    exact ⟨ret_str' HO.out.symm, rfl⟩
  · by_cases h9 : h ≥ 9
    · have HO := Lib.hid (nameB_out h (by omega))
      have h0' : decide (h < 0) = false := by simp; omega
      clear ht
      go_enter Tryd.func11, Tryd.ntmps11
      go_wp2
      go_ret
      exact ⟨ret_str' HO.out.symm, rfl⟩
    · obtain ⟨k, rfl⟩ : ∃ k : Nat, h = (k : Int) := ⟨h.toNat, by omega⟩
      have hk : k < 9 := by omega
      have hc := ht.2 k hk
      have HO := Lib.hid (nameB_in k hk)
      generalize nmb.getD k ⟨#[]⟩ = s at hc HO
      clear ht h0 h9
      go_enter Tryd.func11, Tryd.ntmps11
      go_wp2
      go_ret
      exact ⟨ret_str' HO.out.symm, rfl⟩
set_option maxHeartbeats 1000000 in
set_option maxRecDepth 100000 in
theorem rname_any (h : Int) (w : World) : Calls Tryd.prog 12 #[.int .i64 h] w fun e w' => e = .returned (.string (nameB h)) ∧ w = w' := by
  by_cases hin : 1 ≤ h ∧ h ≤ 8
  · have h8 : h = 1 ∨ h = 2 ∨ h = 3 ∨ h = 4 ∨ h = 5 ∨ h = 6 ∨ h = 7 ∨ h = 8 := by omega
    clear hin
    rcases h8 with rfl | rfl | rfl | rfl | rfl | rfl | rfl | rfl
    all_goals
      go_enter Tryd.func12, Tryd.ntmps12
      go_wp2
      go_ret
      exact ⟨rfl, rfl⟩
  · have HO : Hid (nameB h = ⟨#[]⟩) := by
      by_cases h0 : h = 0
      · subst h0; exact rfl
      · exact Lib.hid (nameB_out h (by omega))
    have h1 : ¬ h = 1 := by omega
    have h2 : ¬ h = 2 := by omega
    have h3 : ¬ h = 3 := by omega
    have h4 : ¬ h = 4 := by omega
    have h5 : ¬ h = 5 := by omega
    have h6 : ¬ h = 6 := by omega
    have h7 : ¬ h = 7 := by omega
    have h8 : ¬ h = 8 := by omega
    clear hin
    go_enter Tryd.func12, Tryd.ntmps12
    go_wp2
    go_ret
    exact ⟨ret_str' HO.out.symm, rfl⟩
end Go.Proofs.YtbekoockmageoaaDoor
