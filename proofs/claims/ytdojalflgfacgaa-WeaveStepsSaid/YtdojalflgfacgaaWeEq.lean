/- What '==' says of two structs of numbers. -/
import Derived.Test.YtdojalflgfacgaaChecked
import Derived.Tactics
import Derived.Tactics2
import Derived.Laws.Small
import Derived.Laws.StructEq
import Derived.Laws.Tables
import Derived.KernelRfl
namespace Go.Proofs.Ytdojalflgfacgaa
@[go_sem] theorem eq_scrimref12_Step (d : Nat) (p0 p1 p2 q0 q1 q2 : Int) (w : World) : (Op.equalIn (d + 1 + 1) 30 (.agg #[.int .i64 p0, .int .i64 p1, .int .i64 p2]) (.agg #[.int .i64 q0, .int .i64 q1, .int .i64 q2])).run Try.prog w = .ok (p0 == q0 && p1 == q1 && p2 == q2) w := by
  have u3 := Try.underlying3
  have a3 := Try.isAgg3
  have z3 := Try.sizeOf3
  have hS : Try.prog.underlying 30 = some (.struct (Try.prog.fieldsOf 30)) := by kernel_rfl
  have hp : Try.prog.stoodInHeld 30 = false := by kernel_rfl
  rw [run_equalIn_struct w (d + 1) 30 _ _ hS hp]
  simp only [Program.fieldsOf, Try.underlying30]
  go_simp
  by_cases h0 : p0 = q0 <;> by_cases h1 : p1 = q1 <;> by_cases h2 : p2 = q2 <;> simp [h0, h1, h2]
@[go_sem] theorem eqt_scrimref12_Step (p0 p1 p2 q0 q1 q2 : Int) (w : World) : (Op.equalIn 10000 30 (.agg #[.int .i64 p0, .int .i64 p1, .int .i64 p2]) (.agg #[.int .i64 q0, .int .i64 q1, .int .i64 q2])).run Try.prog w = .ok (p0 == q0 && p1 == q1 && p2 == q2) w := eq_scrimref12_Step 9998 p0 p1 p2 q0 q1 q2 w
@[go_sem] theorem eq_weave_Step (d : Nat) (p0 p1 p2 q0 q1 q2 : Int) (w : World) : (Op.equalIn (d + 1 + 1) 31 (.agg #[.int .i64 p0, .int .i64 p1, .int .i64 p2]) (.agg #[.int .i64 q0, .int .i64 q1, .int .i64 q2])).run Try.prog w = .ok (p0 == q0 && p1 == q1 && p2 == q2) w := by
  have u3 := Try.underlying3
  have a3 := Try.isAgg3
  have z3 := Try.sizeOf3
  have hS : Try.prog.underlying 31 = some (.struct (Try.prog.fieldsOf 31)) := by kernel_rfl
  have hp : Try.prog.stoodInHeld 31 = false := by kernel_rfl
  rw [run_equalIn_struct w (d + 1) 31 _ _ hS hp]
  simp only [Program.fieldsOf, Try.underlying31]
  go_simp
  by_cases h0 : p0 = q0 <;> by_cases h1 : p1 = q1 <;> by_cases h2 : p2 = q2 <;> simp [h0, h1, h2]
@[go_sem] theorem eqt_weave_Step (p0 p1 p2 q0 q1 q2 : Int) (w : World) : (Op.equalIn 10000 31 (.agg #[.int .i64 p0, .int .i64 p1, .int .i64 p2]) (.agg #[.int .i64 q0, .int .i64 q1, .int .i64 q2])).run Try.prog w = .ok (p0 == q0 && p1 == q1 && p2 == q2) w := eq_weave_Step 9998 p0 p1 p2 q0 q1 q2 w
end Go.Proofs.Ytdojalflgfacgaa
