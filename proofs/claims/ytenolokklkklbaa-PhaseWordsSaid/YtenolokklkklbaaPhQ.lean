/- What '==' says of two states that are alike. -/
import Derived.Test.YtenolokklkklbaaPhW8
import Derived.Laws.Tables
namespace Go.Proofs.Ytenolokklkklbaa
open Go.RowKit Ph
namespace Ph
@[go_sem] theorem field_state (x0 x1 x2 x3 x4 x5 x6 x7 x8 x9 x10 x11 : Value) (w : World) : (Instr.field 34 (.agg #[x0, x1, x2, x3, x4, x5, x6, x7, x8, x9, x10, x11]) 0).run Try.prog w = .ok (.agg #[x0, x1, x2, x3, x4, x5]) w := by
  have u1 := Try.underlying34
  have u2 := Try.underlying27
  have a1 := Try.isAgg34
  have a2 := Try.isAgg27
  have z1 := Try.sizeOf34
  have z2 := Try.sizeOf27
  simp only [Instr.field]
  go_simp
  try rfl
theorem eq_look (d : Nat) (p0 p1 p2 p3 q0 q1 q2 q3 : Int) (w : World) : (Op.equalIn (d + 1 + 1) 38 (.agg #[.int .i64 p0, .int .i64 p1, .int .i64 p2, .int .i64 p3]) (.agg #[.int .i64 q0, .int .i64 q1, .int .i64 q2, .int .i64 q3])).run Try.prog w = .ok (p0 == q0 && p1 == q1 && p2 == q2 && p3 == q3) w := by
  have u3 := Try.underlying3
  have a3 := Try.isAgg3
  have z3 := Try.sizeOf3
  have hS : Try.prog.underlying 38 = some (.struct (Try.prog.fieldsOf 38)) := by kernel_rfl
  have hp : Try.prog.stoodInHeld 38 = false := by kernel_rfl
  rw [run_equalIn_struct w (d + 1) 38 _ _ hS hp]
  simp only [Program.fieldsOf, Try.underlying38]
  go_simp
  by_cases h0 : p0 = q0 <;> by_cases h1 : p1 = q1 <;> by_cases h2 : p2 = q2 <;> by_cases h3 : p3 = q3 <;> simp [h0, h1, h2, h3]
theorem eq_state (d : Nat) (p0 p1 p2 p3 p4 p5 : Int) (w : World) : (Op.equalIn (d + 1 + 1 + 1) 42 (.agg #[.int .i64 p0, .int .i64 p1, .int .i64 p2, .int .i64 p3, .int .i64 p4, .int .i64 p5]) (.agg #[.int .i64 p0, .int .i64 p1, .int .i64 p2, .int .i64 p3, .int .i64 p4, .int .i64 p5])).run Try.prog w = .ok true w := by
  have u3 := Try.underlying3
  have a3 := Try.isAgg3
  have z3 := Try.sizeOf3
  have a4 := Try.isAgg38
  have z4 := Try.sizeOf38
  have hS : Try.prog.underlying 42 = some (.struct (Try.prog.fieldsOf 42)) := by kernel_rfl
  have hp : Try.prog.stoodInHeld 42 = false := by kernel_rfl
  have hL := eq_look d p0 p1 p2 p3 p0 p1 p2 p3 w
  rw [run_equalIn_struct w (d + 1 + 1) 42 _ _ hS hp]
  simp only [Program.fieldsOf, Try.underlying42]
  go_simp
@[go_sem] theorem eqt_state (p0 p1 p2 p3 p4 p5 : Int) (w : World) : (Op.equalIn 10000 42 (.agg #[.int .i64 p0, .int .i64 p1, .int .i64 p2, .int .i64 p3, .int .i64 p4, .int .i64 p5]) (.agg #[.int .i64 p0, .int .i64 p1, .int .i64 p2, .int .i64 p3, .int .i64 p4, .int .i64 p5])).run Try.prog w = .ok true w := eq_state 9997 p0 p1 p2 p3 p4 p5 w
end Ph
end Go.Proofs.Ytenolokklkklbaa
