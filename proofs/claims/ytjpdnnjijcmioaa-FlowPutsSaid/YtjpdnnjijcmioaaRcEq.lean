/- What '==' says of two structs of numbers. -/
import Derived.Test.YtjpdnnjijcmioaaChecked
import Derived.Tactics
import Derived.Tactics2
import Derived.Laws.Small
import Derived.Laws.StructEq
import Derived.Laws.Tables
import Derived.KernelRfl
namespace Go.Proofs.Ytjpdnnjijcmioaa
@[go_sem] theorem eq_rect_Rect (d : Nat) (p0 p1 p2 p3 q0 q1 q2 q3 : Int) (w : World) : (Op.equalIn (d + 1 + 1) 25 (.agg #[.int .i64 p0, .int .i64 p1, .int .i64 p2, .int .i64 p3]) (.agg #[.int .i64 q0, .int .i64 q1, .int .i64 q2, .int .i64 q3])).run Try.prog w = .ok (p0 == q0 && p1 == q1 && p2 == q2 && p3 == q3) w := by
  have u3 := Try.underlying3
  have a3 := Try.isAgg3
  have z3 := Try.sizeOf3
  have hS : Try.prog.underlying 25 = some (.struct (Try.prog.fieldsOf 25)) := by kernel_rfl
  have hp : Try.prog.stoodInHeld 25 = false := by kernel_rfl
  rw [run_equalIn_struct w (d + 1) 25 _ _ hS hp]
  simp only [Program.fieldsOf, Try.underlying25]
  go_simp
  by_cases h0 : p0 = q0 <;> by_cases h1 : p1 = q1 <;> by_cases h2 : p2 = q2 <;> by_cases h3 : p3 = q3 <;> simp [h0, h1, h2, h3]
@[go_sem] theorem eqt_rect_Rect (p0 p1 p2 p3 q0 q1 q2 q3 : Int) (w : World) : (Op.equalIn 10000 25 (.agg #[.int .i64 p0, .int .i64 p1, .int .i64 p2, .int .i64 p3]) (.agg #[.int .i64 q0, .int .i64 q1, .int .i64 q2, .int .i64 q3])).run Try.prog w = .ok (p0 == q0 && p1 == q1 && p2 == q2 && p3 == q3) w := eq_rect_Rect 9998 p0 p1 p2 p3 q0 q1 q2 q3 w
@[go_sem] theorem eq_scrimref13_Rect (d : Nat) (p0 p1 p2 p3 q0 q1 q2 q3 : Int) (w : World) : (Op.equalIn (d + 1 + 1) 23 (.agg #[.int .i64 p0, .int .i64 p1, .int .i64 p2, .int .i64 p3]) (.agg #[.int .i64 q0, .int .i64 q1, .int .i64 q2, .int .i64 q3])).run Try.prog w = .ok (p0 == q0 && p1 == q1 && p2 == q2 && p3 == q3) w := by
  have u3 := Try.underlying3
  have a3 := Try.isAgg3
  have z3 := Try.sizeOf3
  have hS : Try.prog.underlying 23 = some (.struct (Try.prog.fieldsOf 23)) := by kernel_rfl
  have hp : Try.prog.stoodInHeld 23 = false := by kernel_rfl
  rw [run_equalIn_struct w (d + 1) 23 _ _ hS hp]
  simp only [Program.fieldsOf, Try.underlying23]
  go_simp
  by_cases h0 : p0 = q0 <;> by_cases h1 : p1 = q1 <;> by_cases h2 : p2 = q2 <;> by_cases h3 : p3 = q3 <;> simp [h0, h1, h2, h3]
@[go_sem] theorem eqt_scrimref13_Rect (p0 p1 p2 p3 q0 q1 q2 q3 : Int) (w : World) : (Op.equalIn 10000 23 (.agg #[.int .i64 p0, .int .i64 p1, .int .i64 p2, .int .i64 p3]) (.agg #[.int .i64 q0, .int .i64 q1, .int .i64 q2, .int .i64 q3])).run Try.prog w = .ok (p0 == q0 && p1 == q1 && p2 == q2 && p3 == q3) w := eq_scrimref13_Rect 9998 p0 p1 p2 p3 q0 q1 q2 q3 w
@[go_sem] theorem eq_flow_Point (d : Nat) (p0 p1 q0 q1 : Int) (w : World) : (Op.equalIn (d + 1 + 1) 73 (.agg #[.int .i64 p0, .int .i64 p1]) (.agg #[.int .i64 q0, .int .i64 q1])).run Try.prog w = .ok (p0 == q0 && p1 == q1) w := by
  have u3 := Try.underlying3
  have a3 := Try.isAgg3
  have z3 := Try.sizeOf3
  have hS : Try.prog.underlying 73 = some (.struct (Try.prog.fieldsOf 73)) := by kernel_rfl
  have hp : Try.prog.stoodInHeld 73 = false := by kernel_rfl
  rw [run_equalIn_struct w (d + 1) 73 _ _ hS hp]
  simp only [Program.fieldsOf, Try.underlying73]
  go_simp
  by_cases h0 : p0 = q0 <;> by_cases h1 : p1 = q1 <;> simp [h0, h1]
@[go_sem] theorem eqt_flow_Point (p0 p1 q0 q1 : Int) (w : World) : (Op.equalIn 10000 73 (.agg #[.int .i64 p0, .int .i64 p1]) (.agg #[.int .i64 q0, .int .i64 q1])).run Try.prog w = .ok (p0 == q0 && p1 == q1) w := eq_flow_Point 9998 p0 p1 q0 q1 w
@[go_sem] theorem eq_scrimref14_Point (d : Nat) (p0 p1 q0 q1 : Int) (w : World) : (Op.equalIn (d + 1 + 1) 72 (.agg #[.int .i64 p0, .int .i64 p1]) (.agg #[.int .i64 q0, .int .i64 q1])).run Try.prog w = .ok (p0 == q0 && p1 == q1) w := by
  have u3 := Try.underlying3
  have a3 := Try.isAgg3
  have z3 := Try.sizeOf3
  have hS : Try.prog.underlying 72 = some (.struct (Try.prog.fieldsOf 72)) := by kernel_rfl
  have hp : Try.prog.stoodInHeld 72 = false := by kernel_rfl
  rw [run_equalIn_struct w (d + 1) 72 _ _ hS hp]
  simp only [Program.fieldsOf, Try.underlying72]
  go_simp
  by_cases h0 : p0 = q0 <;> by_cases h1 : p1 = q1 <;> simp [h0, h1]
@[go_sem] theorem eqt_scrimref14_Point (p0 p1 q0 q1 : Int) (w : World) : (Op.equalIn 10000 72 (.agg #[.int .i64 p0, .int .i64 p1]) (.agg #[.int .i64 q0, .int .i64 q1])).run Try.prog w = .ok (p0 == q0 && p1 == q1) w := eq_scrimref14_Point 9998 p0 p1 q0 q1 w
@[go_sem] theorem eq_flow_Size (d : Nat) (p0 p1 q0 q1 : Int) (w : World) : (Op.equalIn (d + 1 + 1) 64 (.agg #[.int .i64 p0, .int .i64 p1]) (.agg #[.int .i64 q0, .int .i64 q1])).run Try.prog w = .ok (p0 == q0 && p1 == q1) w := by
  have u3 := Try.underlying3
  have a3 := Try.isAgg3
  have z3 := Try.sizeOf3
  have hS : Try.prog.underlying 64 = some (.struct (Try.prog.fieldsOf 64)) := by kernel_rfl
  have hp : Try.prog.stoodInHeld 64 = false := by kernel_rfl
  rw [run_equalIn_struct w (d + 1) 64 _ _ hS hp]
  simp only [Program.fieldsOf, Try.underlying64]
  go_simp
  by_cases h0 : p0 = q0 <;> by_cases h1 : p1 = q1 <;> simp [h0, h1]
@[go_sem] theorem eqt_flow_Size (p0 p1 q0 q1 : Int) (w : World) : (Op.equalIn 10000 64 (.agg #[.int .i64 p0, .int .i64 p1]) (.agg #[.int .i64 q0, .int .i64 q1])).run Try.prog w = .ok (p0 == q0 && p1 == q1) w := eq_flow_Size 9998 p0 p1 q0 q1 w
@[go_sem] theorem eq_scrimref14_Size (d : Nat) (p0 p1 q0 q1 : Int) (w : World) : (Op.equalIn (d + 1 + 1) 68 (.agg #[.int .i64 p0, .int .i64 p1]) (.agg #[.int .i64 q0, .int .i64 q1])).run Try.prog w = .ok (p0 == q0 && p1 == q1) w := by
  have u3 := Try.underlying3
  have a3 := Try.isAgg3
  have z3 := Try.sizeOf3
  have hS : Try.prog.underlying 68 = some (.struct (Try.prog.fieldsOf 68)) := by kernel_rfl
  have hp : Try.prog.stoodInHeld 68 = false := by kernel_rfl
  rw [run_equalIn_struct w (d + 1) 68 _ _ hS hp]
  simp only [Program.fieldsOf, Try.underlying68]
  go_simp
  by_cases h0 : p0 = q0 <;> by_cases h1 : p1 = q1 <;> simp [h0, h1]
@[go_sem] theorem eqt_scrimref14_Size (p0 p1 q0 q1 : Int) (w : World) : (Op.equalIn 10000 68 (.agg #[.int .i64 p0, .int .i64 p1]) (.agg #[.int .i64 q0, .int .i64 q1])).run Try.prog w = .ok (p0 == q0 && p1 == q1) w := eq_scrimref14_Size 9998 p0 p1 q0 q1 w
end Go.Proofs.Ytjpdnnjijcmioaa
