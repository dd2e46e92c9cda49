/- What '==' says of timers; the statements' own fixed fact of wheels. -/
import Derived.Test.YtdbgmogllncffaaWhWA
import Derived.Tactics2
import Derived.Laws.Small
import Derived.Laws.StructEq
import Derived.Laws.Tables
import Derived.KernelRfl
namespace Go.Proofs.Ytdbgmogllncffaa
open Go.RowKit Go.Sort Wh
@[go_sem] theorem eq_job (d : Nat) (p0 p1 q0 q1 : Int) (w : World) : (Op.equalIn (d + 1 + 1) 45 (.agg #[.int .i64 p0, .int .i64 p1]) (.agg #[.int .i64 q0, .int .i64 q1])).run Try.prog w = .ok (p0 == q0 && p1 == q1) w := by
  have u3 := Try.underlying3
  have a3 := Try.isAgg3
  have z3 := Try.sizeOf3
  have hS : Try.prog.underlying 45 = some (.struct (Try.prog.fieldsOf 45)) := by kernel_rfl
  have hp : Try.prog.stoodInHeld 45 = false := by kernel_rfl
  rw [run_equalIn_struct w (d + 1) 45 _ _ hS hp]
  simp only [Program.fieldsOf, Try.underlying45]
  go_simp
  by_cases h0 : p0 = q0 <;> by_cases h1 : p1 = q1 <;> simp [h0, h1]
theorem eq_timer (d : Nat) (p0 p1 p2 p3 q0 q1 q2 q3 : Int) (w : World) : (Op.equalIn (d + 1 + 1 + 1) 47 (.agg #[.int .i64 p0, .int .i64 p1, .int .i64 p2, .int .i64 p3]) (.agg #[.int .i64 q0, .int .i64 q1, .int .i64 q2, .int .i64 q3])).run Try.prog w = .ok (p0 == q0 && p1 == q1 && (p2 == q2 && p3 == q3)) w := by
  have u3 := Try.underlying3
  have a3 := Try.isAgg3
  have z3 := Try.sizeOf3
  have aj := Try.isAgg45
  have zj := Try.sizeOf45
  have hS : Try.prog.underlying 47 = some (.struct (Try.prog.fieldsOf 47)) := by kernel_rfl
  have hp : Try.prog.stoodInHeld 47 = false := by kernel_rfl
  rw [run_equalIn_struct w (d + 1 + 1) 47 _ _ hS hp]
  simp only [Program.fieldsOf, Try.underlying47]
  go_simp
  by_cases h0 : p0 = q0 <;> by_cases h1 : p1 = q1 <;> by_cases h2 : p2 = q2 <;> by_cases h3 : p3 = q3 <;> simp [h0, h1, h2, h3]
@[go_sem] theorem eqt_timer (p0 p1 p2 p3 q0 q1 q2 q3 : Int) (w : World) : (Op.equalIn 10000 47 (.agg #[.int .i64 p0, .int .i64 p1, .int .i64 p2, .int .i64 p3]) (.agg #[.int .i64 q0, .int .i64 q1, .int .i64 q2, .int .i64 q3])).run Try.prog w = .ok (p0 == q0 && p1 == q1 && (p2 == q2 && p3 == q3)) w := eq_timer 9997 p0 p1 p2 p3 q0 q1 q2 q3 w
end Go.Proofs.Ytdbgmogllncffaa
