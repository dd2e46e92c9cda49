/- How a struct of a slice of strings and a slice of pairs, given by value, is opened. -/
import Derived.Test.YtibcfmfihcgijaaPrOpen
import Derived.ChangeSame
import Derived.WideShapes
namespace Go.Proofs.Ytibcfmfihcgijaa
open Go.RowKit Go.ChangeShapes Go.WideShapes Go.Deep M
section
variable {H : Type} {enc : TypeId × Value → H} {P : Program} {w : World} {base : Nat} {spare : Nat → Bool} {held : Bool}
theorem slice_cell {t e : TypeId} {fuel : Nat} {c : Value} {x : DataW H × List MemPlace} (ht : P.underlying t = some (.slice e)) (h : DataW.trod enc P w base spare held fuel t [c] = some x) : ∃ A n k, c = .slice A n k := by
  rcases DataW.trod_slice ht h with ⟨hc, _⟩ | ⟨a, len, cap, _, _, _, _, hc, _⟩
  · injection hc with hc; exact ⟨_, _, _, hc⟩
  · injection hc with hc; exact ⟨_, _, _, hc⟩
theorem wear_in {r : Reach} {b0 : Nat} {t e0 e1 : TypeId} {f0 f1 g0 g1 : Field} {v : Value} {d : DataW H} {p : List MemPlace} (ht : P.underlying t = some (.struct #[f0, f1])) (ct : P.cellsOf t = 2)
    (o0 : f0.offset = 0) (o1 : f1.offset = 1) (c0 : P.cellsOf f0.type = 1) (c1 : P.cellsOf f1.type = 1)
    (u0 : P.underlying f0.type = some (.slice e0)) (he0 : P.underlying e0 = some .string) (k0 : P.cellsOf e0 = 1)
    (u1 : P.underlying f1.type = some (.slice e1)) (he1 : P.underlying e1 = some (.struct #[g0, g1])) (k1 : P.cellsOf e1 = 2) (q0 : g0.offset = 0) (q1 : g1.offset = 1) (z0 : P.cellsOf g0.type = 1) (z1 : P.cellsOf g1.type = 1)
    (y0 : P.underlying g0.type = some .string) (y1 : P.underlying g1.type = some (.int .i64))
    (hval : Value.okWide P w r b0 t v) (h : DataW.Trod enc P w base spare held t v d p) :
    ∃ A n c ss B m k ps, v = .agg #[.slice A n c, .slice B m k] ∧ StrsIn w A n c ss ∧ PairsIn w B m k ps := by
  obtain ⟨cs, rfl, hsz⟩ := okWide_struct ht hval
  rw [ct] at hsz
  obtain ⟨x, y, hxy⟩ : ∃ x y, cs.toList = [x, y] := by
    match hl : cs.toList, (show cs.toList.length = 2 by simpa using hsz) with
    | [x, y], _ => exact ⟨x, y, rfl⟩
  obtain rfl : cs = #[x, y] := by rw [← hxy]
  obtain ⟨fuel, hf⟩ := h
  obtain ⟨r0, r1, n, _, _, h0, h1⟩ := trod_struct2 ht hf
  rw [o0, c0] at h0
  rw [o1, c1] at h1
  have h0' : DataW.trod enc P w base spare held n f0.type [x] = some r0 := by simpa [Value.cells] using h0
  have h1' : DataW.trod enc P w base spare held n f1.type [y] = some r1 := by simpa [Value.cells] using h1
  obtain ⟨A, a, c, rfl⟩ := slice_cell u0 h0'
  obtain ⟨B, m, k, rfl⟩ := slice_cell u1 h1'
  obtain ⟨ss, hs⟩ := strs_in u0 he0 k0 (d := r0.1) (p := r0.2) ⟨n, by simpa [Value.cells] using h0'⟩
  obtain ⟨ps, hp⟩ := pairs_in u1 he1 k1 q0 q1 z0 z1 y0 y1 (d := r1.1) (p := r1.2) ⟨n, by simpa [Value.cells] using h1'⟩
  exact ⟨A, a, c, ss, B, m, k, ps, rfl, hs, hp⟩
end
end Go.Proofs.Ytibcfmfihcgijaa
