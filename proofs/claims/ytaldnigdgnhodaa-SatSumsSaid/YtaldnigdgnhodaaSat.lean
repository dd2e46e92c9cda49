/- Contracts of layer 1's functions: each returns the plain number that the file Math says, and changes nothing. -/
import Derived.Test.YtaldnigdgnhodaaChecked
import Derived.Test.YtaldnigdgnhodaaMath
import Derived.WalkKit
import Derived.Outline
namespace Go.Proofs.Ytaldnigdgnhodaa
open Go.RowKit M
theorem ret_int {k : IntKind} {a b : Int} (h : a = b) : Ending.returned (.int k a) = .returned (.int k b) := by rw [h]
theorem clip_any (x lo hi : Int) (w : World) :
    Calls Try.prog 22 #[.int .i64 x, .int .i64 lo, .int .i64 hi] w fun e w' => e = .returned (.int .i64 (clp x lo hi)) ∧ w = w' := by
  go_enter Try.func22, Try.ntmps22
  go_wp2
  all_goals
    go_ret
    exact ⟨ret_int (by unfold clp; omega), rfl⟩
theorem sat_any (x : Int) (w : World) :
    Calls Try.prog 9 #[.int .i64 x] w fun e w' => e = .returned (.int .i64 (st x)) ∧ w = w' := by
  go_enter Try.func9, Try.ntmps9
  go_wp2_with (go_at_call 22; refine (clip_any _ _ _ _).mono ?_; rintro e w' ⟨rfl, rfl⟩)
  go_ret
  exact ⟨rfl, rfl⟩
theorem rsat_any (x : Int) (w : World) :
    Calls Try.prog 10 #[.int .i64 x] w fun e w' => e = .returned (.int .i64 (st x)) ∧ w = w' := by
  go_enter Try.func10, Try.ntmps10
  go_wp2
  all_goals
    go_ret
    exact ⟨ret_int (by unfold st; omega), rfl⟩
theorem add_any (a b : Int) (w : World) :
    Calls Try.prog 11 #[.int .i64 a, .int .i64 b] w fun e w' => e = .returned (.int .i64 (st (st a + st b))) ∧ w = w' := by
  have a1 := st_lo a; have a2 := st_hi a; have b1 := st_lo b; have b2 := st_hi b
  go_enter Try.func11, Try.ntmps11
  go_wp2_with (go_at_call 9; refine (sat_any _ _).mono ?_; rintro e w' ⟨rfl, rfl⟩)
  go_ret
  exact ⟨rfl, rfl⟩
theorem radd_any (a b : Int) (w : World) :
    Calls Try.prog 12 #[.int .i64 a, .int .i64 b] w fun e w' => e = .returned (.int .i64 (st (st a + st b))) ∧ w = w' := by
  have a1 := st_lo a; have a2 := st_hi a; have b1 := st_lo b; have b2 := st_hi b
  go_enter Try.func12, Try.ntmps12
  go_wp2_with (go_at_call 10; refine (rsat_any _ _).mono ?_; rintro e w' ⟨rfl, rfl⟩)
  go_ret
  exact ⟨rfl, rfl⟩
theorem sub_any (a b : Int) (w : World) :
    Calls Try.prog 13 #[.int .i64 a, .int .i64 b] w fun e w' => e = .returned (.int .i64 (st (st a - st b))) ∧ w = w' := by
  have a1 := st_lo a; have a2 := st_hi a; have b1 := st_lo b; have b2 := st_hi b
  go_enter Try.func13, Try.ntmps13
  go_wp2_with (go_at_call 9; refine (sat_any _ _).mono ?_; rintro e w' ⟨rfl, rfl⟩)
  go_ret
  exact ⟨rfl, rfl⟩
theorem rsub_any (a b : Int) (w : World) :
    Calls Try.prog 14 #[.int .i64 a, .int .i64 b] w fun e w' => e = .returned (.int .i64 (st (st a - st b))) ∧ w = w' := by
  have a1 := st_lo a; have a2 := st_hi a; have b1 := st_lo b; have b2 := st_hi b
  go_enter Try.func14, Try.ntmps14
  go_wp2_with (go_at_call 10; refine (rsat_any _ _).mono ?_; rintro e w' ⟨rfl, rfl⟩)
  go_ret
  exact ⟨rfl, rfl⟩
theorem mul_any (a b : Int) (w : World) :
    Calls Try.prog 15 #[.int .i64 a, .int .i64 b] w fun e w' => e = .returned (.int .i64 (st (st a * st b))) ∧ w = w' := by
  obtain ⟨m1, m2⟩ := mul_bd _ _ (st_lo a) (st_hi a) (st_lo b) (st_hi b)
  go_enter Try.func15, Try.ntmps15
  go_wp2_with (go_at_call 9; refine (sat_any _ _).mono ?_; rintro e w' ⟨rfl, rfl⟩)
  go_ret
  exact ⟨rfl, rfl⟩
theorem rmul_any (a b : Int) (w : World) :
    Calls Try.prog 16 #[.int .i64 a, .int .i64 b] w fun e w' => e = .returned (.int .i64 (st (st a * st b))) ∧ w = w' := by
  obtain ⟨m1, m2⟩ := mul_bd _ _ (st_lo a) (st_hi a) (st_lo b) (st_hi b)
  go_enter Try.func16, Try.ntmps16
  go_wp2_with (go_at_call 10; refine (rsat_any _ _).mono ?_; rintro e w' ⟨rfl, rfl⟩)
  go_ret
  exact ⟨rfl, rfl⟩
theorem neg_any (a : Int) (w : World) :
    Calls Try.prog 17 #[.int .i64 a] w fun e w' => e = .returned (.int .i64 (st (st 0 - st a))) ∧ w = w' := by
  go_enter Try.func17, Try.ntmps17
  go_wp2_with (go_at_call 13; refine (sub_any _ _ _).mono ?_; rintro e w' ⟨rfl, rfl⟩)
  go_ret
  exact ⟨rfl, rfl⟩
end Go.Proofs.Ytaldnigdgnhodaa
