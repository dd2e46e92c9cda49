/- What the two tables of the program hold, read in memory; where a hook leads, by the program and by the document. -/
import Derived.Test.YtbekoockmageoaaDoorMem
import Derived.Test.YtbekoockmageoaaDoorHkMath
import Derived.Test.YtbekoockmageoaaDoorProg
import Derived.Test.YtbekoockmageoaaDoorRows
import Derived.Tactics
import Derived.Tactics2
import Derived.Laws.Small
import Derived.Laws.StructEq
import Derived.Laws.Tables
import Derived.KernelRfl
import Derived.Deep.QuietTactic
import Derived.BigQuiet
import Derived.RegionTactic
import Derived.Lib.MinMax
import Derived.Lib.LaidTab
import Derived.MakeChecks
import Derived.OpenShut
import Derived.ChangeSame
import Derived.Test.YtbekoockmageoaaDoorChecked
import Derived.Lib.Hide
namespace Go.Proofs.YtbekoockmageoaaDoor
open Go.RowKit Hk
/-- the cells of the table of transitions -/
def trv : List Value := [.int .i64 0, .int .i64 1, .int .i64 1, .int .i64 0, .int .i64 5, .int .i64 4, .int .i64 1, .int .i64 2, .int .i64 2, .int .i64 2, .int .i64 3, .int .i64 3, .int .i64 2, .int .i64 4, .int .i64 3, .int .i64 3, .int .i64 5, .int .i64 4, .int .i64 4, .int .i64 6, .int .i64 5, .int .i64 5, .int .i64 7, .int .i64 6, .int .i64 5, .int .i64 8, .int .i64 6, .int .i64 6, .int .i64 1, .int .i64 1]
def nmb : List ByteArray := [⟨#[]⟩, ⟨#[98, 101, 102, 111, 114, 101, 45, 101, 110, 116, 101, 114]⟩, ⟨#[101, 110, 116, 101, 114]⟩, ⟨#[97, 102, 116, 101, 114, 45, 101, 110, 116, 101, 114]⟩, ⟨#[101, 110, 116, 101, 114, 45, 99, 97, 110, 99, 101, 108, 108, 101, 100]⟩, ⟨#[98, 101, 102, 111, 114, 101, 45, 108, 101, 97, 118, 101]⟩, ⟨#[108, 101, 97, 118, 101]⟩, ⟨#[97, 102, 116, 101, 114, 45, 108, 101, 97, 118, 101]⟩, ⟨#[108, 101, 97, 118, 101, 45, 99, 97, 110, 99, 101, 108, 108, 101, 100]⟩]
def nameB (h : Int) : ByteArray := if 0 ≤ h ∧ h ≤ 8 then nmb.getD h.toNat ⟨#[]⟩ else ⟨#[]⟩
def TrIs (w : World) : Prop := 0 < w.heap.size ∧ ∀ (j : Nat) (u : Value), trv[j]? = some u → w.cell? ⟨0, j, none⟩ = some u
def NmIs (w : World) : Prop := 1 < w.heap.size ∧ ∀ (j : Nat), j < 9 → w.cell? ⟨1, j, none⟩ = some (.string (nmb.getD j ⟨#[]⟩))
theorem TrIs.below {w w' : World} (h : TrIs w) (hb : Below w.heap.size w w') : TrIs w' :=
  ⟨Nat.lt_of_lt_of_le h.1 hb.size, fun j u hu => (hb.cell (p := ⟨0, j, none⟩) h.1).trans (h.2 j u hu)⟩
theorem NmIs.below {w w' : World} (h : NmIs w) (hb : Below w.heap.size w w') : NmIs w' :=
  ⟨Nat.lt_of_lt_of_le h.1 hb.size, fun j hu => (hb.cell (p := ⟨1, j, none⟩) h.1).trans (h.2 j hu)⟩
/-- the aggregate that a load of the table of transitions gives -/
def trAgg : Value := .agg #[.int .i64 0, .int .i64 1, .int .i64 1, .int .i64 0, .int .i64 5, .int .i64 4, .int .i64 1, .int .i64 2, .int .i64 2, .int .i64 2, .int .i64 3, .int .i64 3, .int .i64 2, .int .i64 4, .int .i64 3, .int .i64 3, .int .i64 5, .int .i64 4, .int .i64 4, .int .i64 6, .int .i64 5, .int .i64 5, .int .i64 7, .int .i64 6, .int .i64 5, .int .i64 8, .int .i64 6, .int .i64 6, .int .i64 1, .int .i64 1]
@[go_sem] theorem tr_at (k : Nat) (hk : k < 10) (w : World) : (Instr.index 51 trAgg (.int .i64 (k : Int))).run Tryd.prog w = .ok (.agg #[.int .i64 (ta k), .int .i64 (tb k), .int .i64 (tc k)]) w := by
  have u1 := Tryd.underlying51
  have u2 := Tryd.underlying50
  have u3 := Tryd.underlying48
  have u4 := Tryd.underlying3
  have a1 := Tryd.isAgg51
  have a2 := Tryd.isAgg50
  have z1 := Tryd.sizeOf51
  have z2 := Tryd.sizeOf50
  have h10 : k = 0 ∨ k = 1 ∨ k = 2 ∨ k = 3 ∨ k = 4 ∨ k = 5 ∨ k = 6 ∨ k = 7 ∨ k = 8 ∨ k = 9 := by omega
  rcases h10 with rfl | rfl | rfl | rfl | rfl | rfl | rfl | rfl | rfl | rfl <;> simp only [Instr.index, trAgg] <;> go_simp <;> decide

@[go_sem] theorem eq_report (d : Nat) (p0 p1 q0 q1 : Int) (w : World) : (Op.equalIn (d + 1 + 1) 48 (.agg #[.int .i64 p0, .int .i64 p1]) (.agg #[.int .i64 q0, .int .i64 q1])).run Tryd.prog w = .ok (p0 == q0 && p1 == q1) w := by
  have u3 := Tryd.underlying3
  have a3 := Tryd.isAgg3
  have z3 := Tryd.sizeOf3
  have hS : Tryd.prog.underlying 48 = some (.struct (Tryd.prog.fieldsOf 48)) := by kernel_rfl
  have hp : Tryd.prog.stoodInHeld 48 = false := by kernel_rfl
  rw [run_equalIn_struct w (d + 1) 48 _ _ hS hp]
  simp only [Program.fieldsOf, Tryd.underlying48]
  go_simp
  by_cases h0 : p0 = q0 <;> by_cases h1 : p1 = q1 <;> simp [h0, h1]
@[go_sem] theorem eqt_report (p0 p1 q0 q1 : Int) (w : World) : (Op.equalIn 10000 48 (.agg #[.int .i64 p0, .int .i64 p1]) (.agg #[.int .i64 q0, .int .i64 q1])).run Tryd.prog w = .ok (p0 == q0 && p1 == q1) w := eq_report 9998 p0 p1 q0 q1 w
end Go.Proofs.YtbekoockmageoaaDoor
