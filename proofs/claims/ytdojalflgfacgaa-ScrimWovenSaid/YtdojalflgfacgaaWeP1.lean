/- Contract of slices.Index at ints. -/
import Derived.Test.YtdojalflgfacgaaWeW1
namespace Go.Proofs.Ytdojalflgfacgaa
open Go.RowKit We
theorem index_any (A : Option Addr) (n c : Nat) (l : List Int) (x v : Int) (w : World) (hn : n = l.length) (hb : n ≤ 100000) (ha : At w A (iv l)) (hv : rAt l x = v) :
    Calls Try.prog 37 #[.slice A n c, .int .i64 x] w fun e w' => e = .returned (.int .i64 v) ∧ w = w' := by
  have HN := Lib.hid hn
  have HA := Lib.hid ha
  have HV := Lib.hid hv
  clear hn ha hv
  go_enter Try.func37, Try.ntmps37
  go_wp2
  go_loop [8] (fun i => ∃ k : Nat, k ≤ n ∧ i = .int .i64 k ∧ Hid (∀ j, j < k → at' l j ≠ x)) (fun i => n - (intOf i).toNat)
  case atStart => exact ⟨0, Nat.zero_le _, rfl, Lib.hid fun i h => absurd h (Nat.not_lt_zero _)⟩
  case round =>
    obtain ⟨k, hk, rfl, hx⟩ := hrel
    by_cases hlt : k < n
    · have hkl : k < l.length := by have := HN.out; omega
      obtain ⟨b1, o1, rfl, hb1, hc1⟩ := HA.out.one (iv_at l k hkl)
      obtain ⟨y, hy⟩ : ∃ y, y = ats l k := ⟨_, rfl⟩
      rw [← hy] at hc1
      have HY := Lib.hid hy
      clear hy
      by_cases hyk : y = x
      · have HE := Lib.hid hyk
        have h2 : (y == x) = true := beq_iff_eq.2 hyk
        clear hyk
        go_wp2
        go_ret
        have h3 : at' l k = x := HY.out.symm.trans HE.out
        have h4 : v = (k : Int) := by rw [← HV.out, rAt_yes (h3 ▸ at_mem hkl), ix_first hkl h3 hx.out]
        exact ⟨by rw [h4]; rfl, rfl⟩
      · have HE := Lib.hid hyk
        have h2 : (y == x) = false := beq_eq_false_iff_ne.2 hyk
        clear hyk
        go_wp2
        go_round
        case rel => exact ⟨k + 1, by omega, by go_num, Lib.hid (fun j hj => by
          by_cases e : j = k
          · subst e; exact fun h => HE.out (HY.out.trans h)
          · exact hx.out j (by omega))⟩
        case measure => simp [intOf]; omega
    · obtain rfl : k = n := by omega
      go_wp2
      go_ret
      have h4 : v = -1 := by rw [← HV.out, rAt_no (not_mem_of (fun j hj => hx.out j (by have := HN.out; omega)))]
      exact ⟨by rw [h4]; rfl, rfl⟩
end Go.Proofs.Ytdojalflgfacgaa
