/- Contracts of layer 1's functions: each returns the plain number that the file Math says, and changes nothing. -/
import Derived.Test.YtjpdnnjijcmioaaChecked
import Derived.Test.YtjpdnnjijcmioaaSatMath
import Derived.WalkKit
import Derived.Outline
namespace Go.Proofs.Ytjpdnnjijcmioaa
open Go.RowKit M
theorem ret_int {k : IntKind} {a b : Int} (h : a = b) : Ending.returned (.int k a) = .returned (.int k b) := by rw [h]
theorem clip_any (x lo hi : Int) (w : World) :
    Calls Try.prog 65 #[.int .i64 x, .int .i64 lo, .int .i64 hi] w fun e w' => e = .returned (.int .i64 (clp x lo hi)) ∧ w = w' := by
  go_enter Try.func65, Try.ntmps65
  go_wp2
  all_goals
    go_ret
    exact ⟨ret_int (by unfold clp; omega), rfl⟩
theorem sat_any (x : Int) (w : World) :
    Calls Try.prog 57 #[.int .i64 x] w fun e w' => e = .returned (.int .i64 (st x)) ∧ w = w' := by
  go_enter Try.func57, Try.ntmps57
  go_wp2_with (go_at_call 65; refine (clip_any _ _ _ _).mono ?_; rintro e w' ⟨rfl, rfl⟩)
  go_ret
  exact ⟨rfl, rfl⟩
theorem rsat_any (x : Int) (w : World) :
    Calls Try.prog 38 #[.int .i64 x] w fun e w' => e = .returned (.int .i64 (st x)) ∧ w = w' := by
  go_enter Try.func38, Try.ntmps38
  go_wp2
  all_goals
    go_ret
    exact ⟨ret_int (by unfold st; omega), rfl⟩
theorem add_any (a b : Int) (w : World) :
    Calls Try.prog 37 #[.int .i64 a, .int .i64 b] w fun e w' => e = .returned (.int .i64 (st (st a + st b))) ∧ w = w' := by
  have a1 := st_lo a; have a2 := st_hi a; have b1 := st_lo b; have b2 := st_hi b
  go_enter Try.func37, Try.ntmps37
  go_wp2_with (go_at_call 57; refine (sat_any _ _).mono ?_; rintro e w' ⟨rfl, rfl⟩)
  go_ret
  exact ⟨rfl, rfl⟩
theorem radd_any (a b : Int) (w : World) :
    Calls Try.prog 17 #[.int .i64 a, .int .i64 b] w fun e w' => e = .returned (.int .i64 (st (st a + st b))) ∧ w = w' := by
  have a1 := st_lo a; have a2 := st_hi a; have b1 := st_lo b; have b2 := st_hi b
  go_enter Try.func17, Try.ntmps17
  go_wp2_with (go_at_call 38; refine (rsat_any _ _).mono ?_; rintro e w' ⟨rfl, rfl⟩)
  go_ret
  exact ⟨rfl, rfl⟩
theorem sub_any (a b : Int) (w : World) :
    Calls Try.prog 39 #[.int .i64 a, .int .i64 b] w fun e w' => e = .returned (.int .i64 (st (st a - st b))) ∧ w = w' := by
  have a1 := st_lo a; have a2 := st_hi a; have b1 := st_lo b; have b2 := st_hi b
  go_enter Try.func39, Try.ntmps39
  go_wp2_with (go_at_call 57; refine (sat_any _ _).mono ?_; rintro e w' ⟨rfl, rfl⟩)
  go_ret
  exact ⟨rfl, rfl⟩
theorem rsub_any (a b : Int) (w : World) :
    Calls Try.prog 22 #[.int .i64 a, .int .i64 b] w fun e w' => e = .returned (.int .i64 (st (st a - st b))) ∧ w = w' := by
  have a1 := st_lo a; have a2 := st_hi a; have b1 := st_lo b; have b2 := st_hi b
  go_enter Try.func22, Try.ntmps22
  go_wp2_with (go_at_call 38; refine (rsat_any _ _).mono ?_; rintro e w' ⟨rfl, rfl⟩)
  go_ret
  exact ⟨rfl, rfl⟩
end Go.Proofs.Ytjpdnnjijcmioaa
