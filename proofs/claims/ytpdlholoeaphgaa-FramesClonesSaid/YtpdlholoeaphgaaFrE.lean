/- What '==' says of jobs that wait, the program's and the document's. -/
import Derived.Test.YtpdlholoeaphgaaFrR2
import Derived.Tactics2
import Derived.Laws.Small
import Derived.Laws.StructEq
import Derived.Laws.Tables
import Derived.KernelRfl
namespace Go.Proofs.Ytpdlholoeaphgaa
open Go.RowKit
namespace Fr
@[go_sem] theorem eq_rjob (d : Nat) (p0 p1 q0 q1 : Int) (w : World) : (Op.equalIn (d + 1 + 1) 33 (.agg #[.int .i64 p0, .int .i64 p1]) (.agg #[.int .i64 q0, .int .i64 q1])).run Try.prog w = .ok (p0 == q0 && p1 == q1) w := by
  have u3 := Try.underlying3
  have a3 := Try.isAgg3
  have z3 := Try.sizeOf3
  have hS : Try.prog.underlying 33 = some (.struct (Try.prog.fieldsOf 33)) := by kernel_rfl
  have hp : Try.prog.stoodInHeld 33 = false := by kernel_rfl
  rw [run_equalIn_struct w (d + 1) 33 _ _ hS hp]
  simp only [Program.fieldsOf, Try.underlying33]
  go_simp
  by_cases h0 : p0 = q0 <;> by_cases h1 : p1 = q1 <;> simp [h0, h1]
theorem eq_rwait (d : Nat) (p0 p1 p2 p3 q0 q1 q2 q3 : Int) (w : World) : (Op.equalIn (d + 1 + 1 + 1) 85 (.agg #[.int .i64 p0, .int .i64 p1, .int .i64 p2, .int .i64 p3]) (.agg #[.int .i64 q0, .int .i64 q1, .int .i64 q2, .int .i64 q3])).run Try.prog w = .ok (p0 == q0 && p1 == q1 && (p2 == q2 && p3 == q3)) w := by
  have u3 := Try.underlying3
  have a3 := Try.isAgg3
  have z3 := Try.sizeOf3
  have aj := Try.isAgg33
  have zj := Try.sizeOf33
  have hS : Try.prog.underlying 85 = some (.struct (Try.prog.fieldsOf 85)) := by kernel_rfl
  have hp : Try.prog.stoodInHeld 85 = false := by kernel_rfl
  rw [run_equalIn_struct w (d + 1 + 1) 85 _ _ hS hp]
  simp only [Program.fieldsOf, Try.underlying85]
  go_simp
  by_cases h0 : p0 = q0 <;> by_cases h1 : p1 = q1 <;> by_cases h2 : p2 = q2 <;> by_cases h3 : p3 = q3 <;> simp [h0, h1, h2, h3]
@[go_sem] theorem eqt_rwait (p0 p1 p2 p3 q0 q1 q2 q3 : Int) (w : World) : (Op.equalIn 10000 85 (.agg #[.int .i64 p0, .int .i64 p1, .int .i64 p2, .int .i64 p3]) (.agg #[.int .i64 q0, .int .i64 q1, .int .i64 q2, .int .i64 q3])).run Try.prog w = .ok (p0 == q0 && p1 == q1 && (p2 == q2 && p3 == q3)) w := eq_rwait 9997 p0 p1 p2 p3 q0 q1 q2 q3 w
@[go_sem] theorem eq_job (d : Nat) (p0 p1 q0 q1 : Int) (w : World) : (Op.equalIn (d + 1 + 1) 46 (.agg #[.int .i64 p0, .int .i64 p1]) (.agg #[.int .i64 q0, .int .i64 q1])).run Try.prog w = .ok (p0 == q0 && p1 == q1) w := by
  have u3 := Try.underlying3
  have a3 := Try.isAgg3
  have z3 := Try.sizeOf3
  have hS : Try.prog.underlying 46 = some (.struct (Try.prog.fieldsOf 46)) := by kernel_rfl
  have hp : Try.prog.stoodInHeld 46 = false := by kernel_rfl
  rw [run_equalIn_struct w (d + 1) 46 _ _ hS hp]
  simp only [Program.fieldsOf, Try.underlying46]
  go_simp
  by_cases h0 : p0 = q0 <;> by_cases h1 : p1 = q1 <;> simp [h0, h1]
theorem eq_wait (d : Nat) (p0 p1 p2 p3 q0 q1 q2 q3 : Int) (w : World) : (Op.equalIn (d + 1 + 1 + 1) 49 (.agg #[.int .i64 p0, .int .i64 p1, .int .i64 p2, .int .i64 p3]) (.agg #[.int .i64 q0, .int .i64 q1, .int .i64 q2, .int .i64 q3])).run Try.prog w = .ok (p0 == q0 && p1 == q1 && (p2 == q2 && p3 == q3)) w := by
  have u3 := Try.underlying3
  have a3 := Try.isAgg3
  have z3 := Try.sizeOf3
  have aj := Try.isAgg46
  have zj := Try.sizeOf46
  have hS : Try.prog.underlying 49 = some (.struct (Try.prog.fieldsOf 49)) := by kernel_rfl
  have hp : Try.prog.stoodInHeld 49 = false := by kernel_rfl
  rw [run_equalIn_struct w (d + 1 + 1) 49 _ _ hS hp]
  simp only [Program.fieldsOf, Try.underlying49]
  go_simp
  by_cases h0 : p0 = q0 <;> by_cases h1 : p1 = q1 <;> by_cases h2 : p2 = q2 <;> by_cases h3 : p3 = q3 <;> simp [h0, h1, h2, h3]
@[go_sem] theorem eqt_wait (p0 p1 p2 p3 q0 q1 q2 q3 : Int) (w : World) : (Op.equalIn 10000 49 (.agg #[.int .i64 p0, .int .i64 p1, .int .i64 p2, .int .i64 p3]) (.agg #[.int .i64 q0, .int .i64 q1, .int .i64 q2, .int .i64 q3])).run Try.prog w = .ok (p0 == q0 && p1 == q1 && (p2 == q2 && p3 == q3)) w := eq_wait 9997 p0 p1 p2 p3 q0 q1 q2 q3 w
end Fr
end Go.Proofs.Ytpdlholoeaphgaa
