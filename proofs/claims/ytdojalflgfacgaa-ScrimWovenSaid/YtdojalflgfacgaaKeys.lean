/- What kids and names read as where they are the keys of maps. -/
import Derived.Test.YtdojalflgfacgaaMapK
import Derived.Test.YtdojalflgfacgaaMaMath
import Derived.Test.YtdojalflgfacgaaProg
import Derived.WalkKit
namespace Go.Proofs.Ytdojalflgfacgaa
open Go.RowKit Go.Maps Ma
theorem wf_nat {n : Nat} (h : n ≤ maxLen) : (Lit.int .i64 (n : Int)).wf = true := by
  unfold maxLen at h
  have e1 : IntKind.i64.min = -9223372036854775808 := by decide
  have e2 : IntKind.i64.max = 9223372036854775807 := by decide
  simp [Lit.wf, e1, e2]
  omega
theorem key2 {P : Program} {k : TypeId} {f0 f1 : Field} {d : Nat} (hu : P.underlying k = some (.struct #[f0, f1])) (o0 : f0.offset = 0) (o1 : f1.offset = 1) (n0 : (f0.name != "_") = true) (n1 : (f1.name != "_") = true)
    (u0 : P.underlying f0.type = some (.int .i64)) (u1 : P.underlying f1.type = some .string) (c : P.cellsOf k = 2) (c0 : P.cellsOf f0.type = 1) (c1 : P.cellsOf f1.type = 1) (hk : P.keyType k = true) (hd : P.types.size + 1 = d + 2)
    (z : Int) (s : ByteArray) (hz : (Lit.int .i64 z).wf = true) (hs : s.size ≤ maxLen) : keyOf P k (.agg #[.int .i64 z, .string s]) = some (.string (keyBytes [.int .i64 z, .string s.data.toList])) := by
  have h2 : P.keyLits (d + 2) k [.int .i64 z, .string s] = some [.int .i64 z, .string s.data.toList] := by
    unfold Program.keyLits
    simp only [hu]
    simp [c, n0, n1, o0, o1, c0, c1, Program.keyLits, u0, u1, hz, hs]
  unfold keyOf
  simp only [hu, hk, Value.formed, c, hd, Value.cells]
  simp [h2]
theorem key3 {P : Program} {k k0 : TypeId} {f0 f1 g0 g1 : Field} {d : Nat} (hu : P.underlying k = some (.struct #[g0, g1])) (p0 : g0.offset = 0) (p1 : g1.offset = 2) (m0 : (g0.name != "_") = true) (m1 : (g1.name != "_") = true) (ht : g0.type = k0) (v1 : P.underlying g1.type = some (.int .i64))
    (hu0 : P.underlying k0 = some (.struct #[f0, f1])) (o0 : f0.offset = 0) (o1 : f1.offset = 1) (n0 : (f0.name != "_") = true) (n1 : (f1.name != "_") = true)
    (u0 : P.underlying f0.type = some (.int .i64)) (u1 : P.underlying f1.type = some .string) (c : P.cellsOf k0 = 2) (c0 : P.cellsOf f0.type = 1) (c1 : P.cellsOf f1.type = 1) (cc : P.cellsOf k = 3) (d1 : P.cellsOf g1.type = 1) (hk : P.keyType k = true) (hd : P.types.size + 1 = d + 3)
    (z : Int) (s : ByteArray) (y : Int) (hz : (Lit.int .i64 z).wf = true) (hs : s.size ≤ maxLen) (hy : (Lit.int .i64 y).wf = true) : keyOf P k (.agg #[.int .i64 z, .string s, .int .i64 y]) = some (.string (keyBytes [.int .i64 z, .string s.data.toList, .int .i64 y])) := by
  have h2 : P.keyLits (d + 2) k0 [.int .i64 z, .string s] = some [.int .i64 z, .string s.data.toList] := by
    unfold Program.keyLits
    simp only [hu0]
    simp [c, n0, n1, o0, o1, c0, c1, Program.keyLits, u0, u1, hz, hs]
  have h3 : P.keyLits (d + 3) k [.int .i64 z, .string s, .int .i64 y] = some [.int .i64 z, .string s.data.toList, .int .i64 y] := by
    unfold Program.keyLits
    simp only [hu]
    simp [cc, m0, m1, p0, p1, ht, c, d1, h2]
    simp [Program.keyLits, v1, hy]
  unfold keyOf
  simp only [hu, hk, Value.formed, cc, hd, Value.cells]
  simp [h3]
theorem kt1 : Try.prog.keyTypeAt 3 42 = true := by kernel_rfl
theorem kt2 : Try.prog.keyTypeAt 3 72 = true := by kernel_rfl
theorem laidOutB' : laidOutB Try.prog = true := by kernel_rfl
theorem lawKid : WideMaps.KeyLaw Try.prog 42 := deep_law_laid laidOutB' (m := 3) (by omega) (by first | decide | kernel_rfl | (apply of_decide_eq_true; kernel_rfl)) kt1 (by kernel_rfl)
theorem lawName : WideMaps.KeyLaw Try.prog 72 := deep_law_laid laidOutB' (m := 3) (by omega) (by first | decide | kernel_rfl | (apply of_decide_eq_true; kernel_rfl)) kt2 (by kernel_rfl)
def OkK (k : Kd) : Prop := (Lit.int .i64 k.1).wf = true ∧ k.2.size ≤ maxLen
def OkN (x : Kd × Nat) : Prop := OkK x.1 ∧ x.2 ≤ maxLen
def kidV (k : Kd) : Value := .agg #[.int .i64 k.1, .string k.2]
def nmV (x : Kd × Nat) : Value := .agg #[.int .i64 x.1.1, .string x.1.2, .int .i64 (x.2 : Int)]
def kidL (k : Kd) : Lit := .string (keyBytes [.int .i64 k.1, .string k.2.data.toList])
def nmL (x : Kd × Nat) : Lit := .string (keyBytes [.int .i64 x.1.1, .string x.1.2.data.toList, .int .i64 (x.2 : Int)])
theorem two_le : 2 ≤ Try.prog.types.size := of_decide_eq_true (by kernel_rfl)
theorem hsz1 : Try.prog.types.size + 1 = Try.prog.types.size - 1 + 2 := by have := two_le; omega
theorem hsz2 : Try.prog.types.size + 1 = Try.prog.types.size - 2 + 3 := by have := two_le; omega
theorem kidV_reads (k : Kd) (h : OkK k) : keyOf Try.prog 42 (kidV k) = some (kidL k) :=
  key2 Try.underlying42 rfl rfl (by decide) (by decide) Try.underlying3 Try.underlying9 (by kernel_rfl) (by kernel_rfl) (by kernel_rfl) (by kernel_rfl) (d := Try.prog.types.size - 1) hsz1 k.1 k.2 h.1 h.2
theorem nmV_reads (x : Kd × Nat) (h : OkN x) : keyOf Try.prog 72 (nmV x) = some (nmL x) :=
  key3 Try.underlying72 rfl rfl (by decide) (by decide) rfl Try.underlying3 Try.underlying42 rfl rfl (by decide) (by decide) Try.underlying3 Try.underlying9 (by kernel_rfl) (by kernel_rfl) (by kernel_rfl) (by kernel_rfl) (by kernel_rfl) (by kernel_rfl) (d := Try.prog.types.size - 2) hsz2 x.1.1 x.1.2 x.2 h.1.1 h.1.2 (wf_nat h.2)
theorem kidWay : Way Try.prog 42 kidV kidL OkK where
  keyed := Keyed.of_law lawKid
  reads := kidV_reads
  inj a b ha hb h := by
    have h1 := lawKid.inj (kidV_reads a ha) (h ▸ kidV_reads b hb)
    simp [kidV] at h1
    exact Prod.ext h1.1 h1.2
theorem nmWay : Way Try.prog 72 nmV nmL OkN where
  keyed := Keyed.of_law lawName
  reads := nmV_reads
  inj a b ha hb h := by
    have h1 := lawName.inj (nmV_reads a ha) (h ▸ nmV_reads b hb)
    simp [nmV] at h1
    exact Prod.ext (Prod.ext h1.1 h1.2.1) (by omega)
end Go.Proofs.Ytdojalflgfacgaa
