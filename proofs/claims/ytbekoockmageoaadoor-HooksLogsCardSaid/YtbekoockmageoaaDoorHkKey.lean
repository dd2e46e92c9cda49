/- What kids read as where they are the keys of a map. -/
import Derived.Test.YtbekoockmageoaaDoorMapK
import Derived.Test.YtbekoockmageoaaDoorHkEn
import Derived.Test.YtbekoockmageoaaDoorClMath
import Derived.WalkKit
import Derived.Tactics
import Derived.Tactics2
import Derived.Laws.Small
import Derived.Laws.StructEq
import Derived.Laws.Tables
import Derived.KernelRfl
import Derived.Test.YtbekoockmageoaaDoorChecked
namespace Go.Proofs.YtbekoockmageoaaDoor
open Go.RowKit Go.Maps Hk
theorem key2 {P : Program} {k : TypeId} {f0 f1 : Field} {d : Nat} (hu : P.underlying k = some (.struct #[f0, f1])) (o0 : f0.offset = 0) (o1 : f1.offset = 1) (n0 : (f0.name != "_") = true) (n1 : (f1.name != "_") = true)
    (u0 : P.underlying f0.type = some (.int .i64)) (u1 : P.underlying f1.type = some .string) (c : P.cellsOf k = 2) (c0 : P.cellsOf f0.type = 1) (c1 : P.cellsOf f1.type = 1) (hk : P.keyType k = true) (hd : P.types.size + 1 = d + 2)
    (z : Int) (s : ByteArray) (hz : (Lit.int .i64 z).wf = true) (hs : s.size ≤ maxLen) : keyOf P k (.agg #[.int .i64 z, .string s]) = some (.string (keyBytes [.int .i64 z, .string s.data.toList])) := by
  have h2 : P.keyLits (d + 2) k [.int .i64 z, .string s] = some [.int .i64 z, .string s.data.toList] := by
    unfold Program.keyLits
    simp only [hu]
    simp [c, n0, n1, o0, o1, c0, c1, Program.keyLits, u0, u1, hz, hs]
  unfold keyOf
  simp only [hu, hk, Value.formed, c, hd, Value.cells]
  simp [h2]
theorem kt1 : Tryd.prog.keyTypeAt 3 55 = true := by kernel_rfl
theorem laidOutB' : laidOutB Tryd.prog = true := by kernel_rfl
theorem lawKid : WideMaps.KeyLaw Tryd.prog 55 := deep_law_laid laidOutB' (m := 3) (by omega) (by first | decide | kernel_rfl | (apply of_decide_eq_true; kernel_rfl)) kt1 (by kernel_rfl)
def OkK (k : Kid) : Prop := (Lit.int .i64 k.1).wf = true ∧ k.2.size ≤ maxLen
def kidV (k : Kid) : Value := .agg #[.int .i64 k.1, .string k.2]
def kidL (k : Kid) : Lit := .string (keyBytes [.int .i64 k.1, .string k.2.data.toList])
theorem two_le : 2 ≤ Tryd.prog.types.size := of_decide_eq_true (by kernel_rfl)
theorem hsz1 : Tryd.prog.types.size + 1 = Tryd.prog.types.size - 1 + 2 := by have := two_le; omega
theorem kidV_reads (k : Kid) (h : OkK k) : keyOf Tryd.prog 55 (kidV k) = some (kidL k) :=
  key2 Tryd.underlying55 rfl rfl (by decide) (by decide) Tryd.underlying3 Tryd.underlying9 (by kernel_rfl) (by kernel_rfl) (by kernel_rfl) (by kernel_rfl) (d := Tryd.prog.types.size - 1) hsz1 k.1 k.2 h.1 h.2
theorem kidWay : Way Tryd.prog 55 kidV kidL OkK where
  keyed := Keyed.of_law lawKid
  reads := kidV_reads
  inj a b ha hb h := by
    have h1 := lawKid.inj (kidV_reads a ha) (h ▸ kidV_reads b hb)
    simp [kidV] at h1
    exact Prod.ext h1.1 h1.2
theorem zeroI (w : World) : (zeroValue 3).run Tryd.prog w = .ok (.int .i64 0) w := by kernel_rfl
@[go_sem] theorem eq_kid (d : Nat) (p0 q0 : Int) (p1 q1 : ByteArray) (w : World) : (Op.equalIn (d + 1 + 1) 55 (.agg #[.int .i64 p0, .string p1]) (.agg #[.int .i64 q0, .string q1])).run Tryd.prog w = .ok (decide ((p0, p1) = (q0, q1))) w := by
  have u3 := Tryd.underlying3
  have a3 := Tryd.isAgg3
  have z3 := Tryd.sizeOf3
  have u4 := Tryd.underlying9
  have a4 := Tryd.isAgg9
  have z4 := Tryd.sizeOf9
  have hS : Tryd.prog.underlying 55 = some (.struct (Tryd.prog.fieldsOf 55)) := by kernel_rfl
  have hp : Tryd.prog.stoodInHeld 55 = false := by kernel_rfl
  rw [run_equalIn_struct w (d + 1) 55 _ _ hS hp]
  simp only [Program.fieldsOf, Tryd.underlying55]
  go_simp
  by_cases h1 : p1 = q1
  · subst h1
    by_cases h0 : p0 = q0 <;> simp [h0]
  · have h3 : ¬ p1.toList = q1.toList := by simpa using M.str_no h1
    by_cases h0 : p0 = q0 <;> simp [h0, h1, h3]
@[go_sem] theorem eqt_kid (p0 q0 : Int) (p1 q1 : ByteArray) (w : World) : (Op.equalIn 10000 55 (.agg #[.int .i64 p0, .string p1]) (.agg #[.int .i64 q0, .string q1])).run Tryd.prog w = .ok (decide ((p0, p1) = (q0, q1))) w := eq_kid 9998 p0 q0 p1 q1 w
end Go.Proofs.YtbekoockmageoaaDoor
