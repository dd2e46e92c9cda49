/- Contracts of layer 1's functions: each returns the plain number that the file Math says, and changes nothing. -/
import Derived.Test.YtdaohjimfgdmbaaChecked
import Derived.Test.YtdaohjimfgdmbaaSatMath
import Derived.WalkKit
import Derived.Outline
namespace Go.Proofs.Ytdaohjimfgdmbaa
open Go.RowKit M
theorem ret_int {k : IntKind} {a b : Int} (h : a = b) : Ending.returned (.int k a) = .returned (.int k b) := by rw [h]
theorem clip_any (x lo hi : Int) (w : World) :
    Calls Try.prog 69 #[.int .i64 x, .int .i64 lo, .int .i64 hi] w fun e w' => e = .returned (.int .i64 (clp x lo hi)) ∧ w = w' := by
  go_enter Try.func69, Try.ntmps69
  go_wp2
  all_goals
    go_ret
    exact ⟨ret_int (by unfold clp; omega), rfl⟩
theorem sat_any (x : Int) (w : World) :
    Calls Try.prog 65 #[.int .i64 x] w fun e w' => e = .returned (.int .i64 (st x)) ∧ w = w' := by
  go_enter Try.func65, Try.ntmps65
  go_wp2_with (go_at_call 69; refine (clip_any _ _ _ _).mono ?_; rintro e w' ⟨rfl, rfl⟩)
  go_ret
  exact ⟨rfl, rfl⟩
theorem rsat_any (x : Int) (w : World) :
    Calls Try.prog 60 #[.int .i64 x] w fun e w' => e = .returned (.int .i64 (st x)) ∧ w = w' := by
  go_enter Try.func60, Try.ntmps60
  go_wp2
  all_goals
    go_ret
    exact ⟨ret_int (by unfold st; omega), rfl⟩
theorem add_any (a b : Int) (w : World) :
    Calls Try.prog 56 #[.int .i64 a, .int .i64 b] w fun e w' => e = .returned (.int .i64 (st (st a + st b))) ∧ w = w' := by
  have a1 := st_lo a; have a2 := st_hi a; have b1 := st_lo b; have b2 := st_hi b
  go_enter Try.func56, Try.ntmps56
  go_wp2_with (go_at_call 65; refine (sat_any _ _).mono ?_; rintro e w' ⟨rfl, rfl⟩)
  go_ret
  exact ⟨rfl, rfl⟩
theorem radd_any (a b : Int) (w : World) :
    Calls Try.prog 43 #[.int .i64 a, .int .i64 b] w fun e w' => e = .returned (.int .i64 (st (st a + st b))) ∧ w = w' := by
  have a1 := st_lo a; have a2 := st_hi a; have b1 := st_lo b; have b2 := st_hi b
  go_enter Try.func43, Try.ntmps43
  go_wp2_with (go_at_call 60; refine (rsat_any _ _).mono ?_; rintro e w' ⟨rfl, rfl⟩)
  go_ret
  exact ⟨rfl, rfl⟩
theorem sub_any (a b : Int) (w : World) :
    Calls Try.prog 54 #[.int .i64 a, .int .i64 b] w fun e w' => e = .returned (.int .i64 (st (st a - st b))) ∧ w = w' := by
  have a1 := st_lo a; have a2 := st_hi a; have b1 := st_lo b; have b2 := st_hi b
  go_enter Try.func54, Try.ntmps54
  go_wp2_with (go_at_call 65; refine (sat_any _ _).mono ?_; rintro e w' ⟨rfl, rfl⟩)
  go_ret
  exact ⟨rfl, rfl⟩
theorem rsub_any (a b : Int) (w : World) :
    Calls Try.prog 48 #[.int .i64 a, .int .i64 b] w fun e w' => e = .returned (.int .i64 (st (st a - st b))) ∧ w = w' := by
  have a1 := st_lo a; have a2 := st_hi a; have b1 := st_lo b; have b2 := st_hi b
  go_enter Try.func48, Try.ntmps48
  go_wp2_with (go_at_call 60; refine (rsat_any _ _).mono ?_; rintro e w' ⟨rfl, rfl⟩)
  go_ret
  exact ⟨rfl, rfl⟩
end Go.Proofs.Ytdaohjimfgdmbaa
