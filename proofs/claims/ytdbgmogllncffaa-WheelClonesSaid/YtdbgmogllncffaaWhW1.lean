/- Contracts of the order of timers: cmp.Compare, cmp.Or at two numbers, wheel's inOrder. -/
import Derived.Test.YtdbgmogllncffaaWhMath
import Derived.Test.YtdbgmogllncffaaBlk
import Derived.Test.YtdbgmogllncffaaProg
import Derived.Shelf.SlSortCmp.QuietGrown
import Derived.Handy
namespace Go.Proofs.Ytdbgmogllncffaa
open Go.RowKit Go.Sort Wh
def c3 (a b : Int) : Int := if a < b then -1 else if b < a then 1 else 0
theorem nan_any (a : Int) (w : World) : Calls Try.prog 47 #[.int .i64 a] w fun e w' => e = .returned (.bool false) ∧ w = w' := by
  go_enter Try.func47, Try.ntmps47
  go_wp2
  go_ret
  exact ⟨by simp, rfl⟩
theorem compare_any (a b : Int) (w : World) : Calls Try.prog 33 #[.int .i64 a, .int .i64 b] w fun e w' => e = .returned (.int .i64 (c3 a b)) ∧ w = w' := by
  unfold c3
  by_cases h1 : a < b
  · rw [if_pos h1]
    go_enter Try.func33, Try.ntmps33
    go_wp2_with (go_at_call 47; refine (nan_any _ _).mono ?_; rintro e w' ⟨rfl, rfl⟩)
    go_ret
    exact ⟨rfl, rfl⟩
  · by_cases h2 : b < a
    · rw [if_neg h1, if_pos h2]
      go_enter Try.func33, Try.ntmps33
      go_wp2_with (go_at_call 47; refine (nan_any _ _).mono ?_; rintro e w' ⟨rfl, rfl⟩)
      go_ret
      exact ⟨rfl, rfl⟩
    · rw [if_neg h1, if_neg h2]
      go_enter Try.func33, Try.ntmps33
      go_wp2_with (go_at_call 47; refine (nan_any _ _).mono ?_; rintro e w' ⟨rfl, rfl⟩)
      go_ret
      exact ⟨rfl, rfl⟩
def or2 (a b : Int) : Int := if a = 0 then b else a
set_option maxHeartbeats 1000000 in
theorem or_any (a b : Int) (B o c : Nat) (w : World) (h0 : w.cell? ⟨B, o, none⟩ = some (.int .i64 a)) (h1 : w.cell? ⟨B, o + 1, none⟩ = some (.int .i64 b)) :
    Calls Try.prog 32 #[.slice (some ⟨B, o, none⟩) 2 c] w fun e w' => e = .returned (.int .i64 (or2 a b)) ∧ w = w' := by
  unfold or2
  by_cases ha : a = 0
  · rw [if_pos ha]
    by_cases hb : b = 0
    · go_enter Try.func32, Try.ntmps32
      go_wp2
      go_rounds 3
      all_goals (try (go_ret; exact ⟨by rw [hb]; rfl, rfl⟩))
    · go_enter Try.func32, Try.ntmps32
      go_wp2
      go_rounds 3
      all_goals (try (go_ret; exact ⟨rfl, rfl⟩))
  · rw [if_neg ha]
    go_enter Try.func32, Try.ntmps32
    go_wp2
    go_rounds 3
    all_goals (try (go_ret; exact ⟨rfl, rfl⟩))
end Go.Proofs.Ytdbgmogllncffaa
