/- What '==' says of two structs of numbers. -/
import Derived.Test.YtdaohjimfgdmbaaChecked
import Derived.Tactics
import Derived.Tactics2
import Derived.Laws.Small
import Derived.Laws.StructEq
import Derived.Laws.Tables
import Derived.KernelRfl
namespace Go.Proofs.Ytdaohjimfgdmbaa
@[go_sem] theorem eq_rect_Rect (d : Nat) (p0 p1 p2 p3 q0 q1 q2 q3 : Int) (w : World) : (Op.equalIn (d + 1 + 1) 29 (.agg #[.int .i64 p0, .int .i64 p1, .int .i64 p2, .int .i64 p3]) (.agg #[.int .i64 q0, .int .i64 q1, .int .i64 q2, .int .i64 q3])).run Try.prog w = .ok (p0 == q0 && p1 == q1 && p2 == q2 && p3 == q3) w := by
  have u3 := Try.underlying3
  have a3 := Try.isAgg3
  have z3 := Try.sizeOf3
  have hS : Try.prog.underlying 29 = some (.struct (Try.prog.fieldsOf 29)) := by kernel_rfl
  have hp : Try.prog.stoodInHeld 29 = false := by kernel_rfl
  rw [run_equalIn_struct w (d + 1) 29 _ _ hS hp]
  simp only [Program.fieldsOf, Try.underlying29]
  go_simp
  by_cases h0 : p0 = q0 <;> by_cases h1 : p1 = q1 <;> by_cases h2 : p2 = q2 <;> by_cases h3 : p3 = q3 <;> simp [h0, h1, h2, h3]
@[go_sem] theorem eqt_rect_Rect (p0 p1 p2 p3 q0 q1 q2 q3 : Int) (w : World) : (Op.equalIn 10000 29 (.agg #[.int .i64 p0, .int .i64 p1, .int .i64 p2, .int .i64 p3]) (.agg #[.int .i64 q0, .int .i64 q1, .int .i64 q2, .int .i64 q3])).run Try.prog w = .ok (p0 == q0 && p1 == q1 && p2 == q2 && p3 == q3) w := eq_rect_Rect 9998 p0 p1 p2 p3 q0 q1 q2 q3 w
@[go_sem] theorem eq_scrimref13_Rect (d : Nat) (p0 p1 p2 p3 q0 q1 q2 q3 : Int) (w : World) : (Op.equalIn (d + 1 + 1) 32 (.agg #[.int .i64 p0, .int .i64 p1, .int .i64 p2, .int .i64 p3]) (.agg #[.int .i64 q0, .int .i64 q1, .int .i64 q2, .int .i64 q3])).run Try.prog w = .ok (p0 == q0 && p1 == q1 && p2 == q2 && p3 == q3) w := by
  have u3 := Try.underlying3
  have a3 := Try.isAgg3
  have z3 := Try.sizeOf3
  have hS : Try.prog.underlying 32 = some (.struct (Try.prog.fieldsOf 32)) := by kernel_rfl
  have hp : Try.prog.stoodInHeld 32 = false := by kernel_rfl
  rw [run_equalIn_struct w (d + 1) 32 _ _ hS hp]
  simp only [Program.fieldsOf, Try.underlying32]
  go_simp
  by_cases h0 : p0 = q0 <;> by_cases h1 : p1 = q1 <;> by_cases h2 : p2 = q2 <;> by_cases h3 : p3 = q3 <;> simp [h0, h1, h2, h3]
@[go_sem] theorem eqt_scrimref13_Rect (p0 p1 p2 p3 q0 q1 q2 q3 : Int) (w : World) : (Op.equalIn 10000 32 (.agg #[.int .i64 p0, .int .i64 p1, .int .i64 p2, .int .i64 p3]) (.agg #[.int .i64 q0, .int .i64 q1, .int .i64 q2, .int .i64 q3])).run Try.prog w = .ok (p0 == q0 && p1 == q1 && p2 == q2 && p3 == q3) w := eq_scrimref13_Rect 9998 p0 p1 p2 p3 q0 q1 q2 q3 w
@[go_sem] theorem eq_flip_Shift (d : Nat) (p0 p1 p2 q0 q1 q2 : Int) (w : World) : (Op.equalIn (d + 1 + 1) 59 (.agg #[.int .i64 p0, .int .i64 p1, .int .i64 p2]) (.agg #[.int .i64 q0, .int .i64 q1, .int .i64 q2])).run Try.prog w = .ok (p0 == q0 && p1 == q1 && p2 == q2) w := by
  have u3 := Try.underlying3
  have a3 := Try.isAgg3
  have z3 := Try.sizeOf3
  have hS : Try.prog.underlying 59 = some (.struct (Try.prog.fieldsOf 59)) := by kernel_rfl
  have hp : Try.prog.stoodInHeld 59 = false := by kernel_rfl
  rw [run_equalIn_struct w (d + 1) 59 _ _ hS hp]
  simp only [Program.fieldsOf, Try.underlying59]
  go_simp
  by_cases h0 : p0 = q0 <;> by_cases h1 : p1 = q1 <;> by_cases h2 : p2 = q2 <;> simp [h0, h1, h2]
@[go_sem] theorem eqt_flip_Shift (p0 p1 p2 q0 q1 q2 : Int) (w : World) : (Op.equalIn 10000 59 (.agg #[.int .i64 p0, .int .i64 p1, .int .i64 p2]) (.agg #[.int .i64 q0, .int .i64 q1, .int .i64 q2])).run Try.prog w = .ok (p0 == q0 && p1 == q1 && p2 == q2) w := eq_flip_Shift 9998 p0 p1 p2 q0 q1 q2 w
@[go_sem] theorem eq_scrimref23_Shift (d : Nat) (p0 p1 p2 q0 q1 q2 : Int) (w : World) : (Op.equalIn (d + 1 + 1) 60 (.agg #[.int .i64 p0, .int .i64 p1, .int .i64 p2]) (.agg #[.int .i64 q0, .int .i64 q1, .int .i64 q2])).run Try.prog w = .ok (p0 == q0 && p1 == q1 && p2 == q2) w := by
  have u3 := Try.underlying3
  have a3 := Try.isAgg3
  have z3 := Try.sizeOf3
  have hS : Try.prog.underlying 60 = some (.struct (Try.prog.fieldsOf 60)) := by kernel_rfl
  have hp : Try.prog.stoodInHeld 60 = false := by kernel_rfl
  rw [run_equalIn_struct w (d + 1) 60 _ _ hS hp]
  simp only [Program.fieldsOf, Try.underlying60]
  go_simp
  by_cases h0 : p0 = q0 <;> by_cases h1 : p1 = q1 <;> by_cases h2 : p2 = q2 <;> simp [h0, h1, h2]
@[go_sem] theorem eqt_scrimref23_Shift (p0 p1 p2 q0 q1 q2 : Int) (w : World) : (Op.equalIn 10000 60 (.agg #[.int .i64 p0, .int .i64 p1, .int .i64 p2]) (.agg #[.int .i64 q0, .int .i64 q1, .int .i64 q2])).run Try.prog w = .ok (p0 == q0 && p1 == q1 && p2 == q2) w := eq_scrimref23_Shift 9998 p0 p1 p2 q0 q1 q2 w
@[go_sem] theorem eq_rect_Entry (d : Nat) (p0 p1 p2 p3 p4 q0 q1 q2 q3 q4 : Int) (w : World) : (Op.equalIn (d + 1 + 1 + 1) 74 (.agg #[.int .i64 p0, .int .i64 p1, .int .i64 p2, .int .i64 p3, .int .i64 p4]) (.agg #[.int .i64 q0, .int .i64 q1, .int .i64 q2, .int .i64 q3, .int .i64 q4])).run Try.prog w = .ok (p0 == q0 && (p1 == q1 && p2 == q2 && p3 == q3 && p4 == q4)) w := by
  have u3 := Try.underlying3
  have a3 := Try.isAgg3
  have z3 := Try.sizeOf3
  have aj := Try.isAgg29
  have zj := Try.sizeOf29
  have hS : Try.prog.underlying 74 = some (.struct (Try.prog.fieldsOf 74)) := by kernel_rfl
  have hp : Try.prog.stoodInHeld 74 = false := by kernel_rfl
  rw [run_equalIn_struct w (d + 1 + 1) 74 _ _ hS hp]
  simp only [Program.fieldsOf, Try.underlying74]
  go_simp
  by_cases h0 : p0 = q0 <;> by_cases h1 : p1 = q1 <;> by_cases h2 : p2 = q2 <;> by_cases h3 : p3 = q3 <;> by_cases h4 : p4 = q4 <;> simp [h0, h1, h2, h3, h4]
@[go_sem] theorem eqt_rect_Entry (p0 p1 p2 p3 p4 q0 q1 q2 q3 q4 : Int) (w : World) : (Op.equalIn 10000 74 (.agg #[.int .i64 p0, .int .i64 p1, .int .i64 p2, .int .i64 p3, .int .i64 p4]) (.agg #[.int .i64 q0, .int .i64 q1, .int .i64 q2, .int .i64 q3, .int .i64 q4])).run Try.prog w = .ok (p0 == q0 && (p1 == q1 && p2 == q2 && p3 == q3 && p4 == q4)) w := eq_rect_Entry 9997 p0 p1 p2 p3 p4 q0 q1 q2 q3 q4 w
end Go.Proofs.Ytdaohjimfgdmbaa
