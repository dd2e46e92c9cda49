/- Contracts of the document's Len and Of. -/
import Derived.Test.YtnjmjgpemnodcaaLiW4
import Derived.Test.YtnjmjgpemnodcaaAppAt
namespace Go.Proofs.Ytnjmjgpemnodcaa
open Go.RowKit Li
theorem rlen_any (A : Option Addr) (n c : Nat) (l : List Int) (w : World) (hn : n = l.length) (hm : n ≤ 1000) (ha : At w A (iv l)) :
    Calls Try.prog 13 #[.slice A n c] w fun e w' => e = .returned (.int .i64 (top (ats l) n : Int)) ∧ Below w.heap.size w w' := by
  have HC := Lib.hid (lens_any A n c l w hn hm ha)
  clear hn ha
  go_enter Try.func13, Try.ntmps13
  go_wp2_with (go_at_call 19; (with_reducible refine HC.out.mono ?_); rintro e w6 ⟨v, rfl, hown, hb⟩; obtain ⟨A6, c6, rfl, h6, h7⟩ := own_slice hown; have HB := Lib.hid hb; have HO := Lib.hid hown; clear hown hb)
  go_loop [3, 9] (fun s i => ∃ k : Nat, k ≤ n ∧ i = .int .i64 k ∧ s = .int .i64 (top (ats l) k : Int)) (fun _ i => n - (intOf i).toNat)
  case atStart => exact ⟨0, Nat.zero_le _, rfl, rfl⟩
  case round =>
    obtain ⟨k, hk, rfl, rfl⟩ := hrel
    by_cases hlt : k < n
    · obtain ⟨b1, o1, rfl, hb1, hc1⟩ := (At.own HO.out).one (nv_at (lens (ats l) n) k (by rw [lens_len]; exact hlt))
      rw [lens_getD _ _ _ hlt] at hc1
      have HE : Hid (top (ats l) (k + 1) = max (top (ats l) k) (N (ats l) k)) := rfl
      have HI : Hid ((max (top (ats l) k : Int) (N (ats l) k : Int)) = ((max (top (ats l) k) (N (ats l) k) : Nat) : Int)) := by show _ = _; omega
      go_wp2
      go_round
      case rel => exact ⟨k + 1, by omega, by go_num, by rw [HE.out, ← HI.out]⟩
      case measure => simp [intOf]; omega
    · obtain rfl : k = n := by omega
      go_wp2
      go_ret
      exact ⟨rfl, HB.out⟩
end Go.Proofs.Ytnjmjgpemnodcaa
