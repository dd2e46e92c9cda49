/- A row of pairs that a call writes anew, and what is left of it: plain laws. -/
import Derived.Test.YtibcfmfihcgijaaDoorPrW3
import Derived.Lib.SliceRun
import Derived.Lib.LazyBuf
namespace Go.Proofs.YtibcfmfihcgijaaDoor
open Go.RowKit M
/-- 'clear' on a slice of elements of whatever cells. -/
theorem clear_run {P : Program} (w : World) (t e ty : TypeId) (z : Value) (ht : P.underlying t = some (.slice e)) (hv : ∀ w, (zeroValue e).run P w = .ok z w) (h1 : ∀ v ∈ z.cells.toList, v.oneCell' = true) (b o n c k : Nat) (hk : z.cells.size = k)
    (hc : ∀ j, j < n * k → (w.cell? ⟨b, o + j, none⟩).isSome = true) (hf : ∀ j, j < n * k → w.frozen? ⟨b, o + j, none⟩ = false) :
    ∃ vs : List Value, vs.length ≤ n * k ∧ (Builtin.clear_ #[t] ty #[.slice (some ⟨b, o, none⟩) n c]).run P w = .ok (.tuple #[]) (w.setCells b o vs) := by
  rcases Nat.eq_zero_or_pos n with rfl | hn
  · refine ⟨[], by simp, ?_⟩
    simp [Builtin.clear_, run_underlying ht, World.setCells]
  · have hl : (Builtin.zeroCells z.cells n).toList.length = n * k := by simp [Builtin.zeroCells, hk]
    have hst := run_storeCells_cells (P := P) b o (Builtin.zeroCells z.cells n).toList 0 w (by intro c hc'; rw [Nat.add_zero]; exact hc c (by rw [hl] at hc'; exact hc')) (by intro c hc'; rw [Nat.add_zero]; exact hf c (by rw [hl] at hc'; exact hc')) (by
      intro v hv'
      simp only [Builtin.zeroCells, Array.toList_map, List.mem_map] at hv'
      obtain ⟨i, hi, rfl⟩ := hv'
      have hi2 : i < n * z.cells.size := by simpa using hi
      have hp : 0 < z.cells.size := by
        rcases Nat.eq_zero_or_pos z.cells.size with h | h
        · rw [h] at hi2; omega
        · exact h
      have hm : i % z.cells.size < z.cells.size := Nat.mod_lt _ hp
      refine h1 _ ?_
      rw [getElem!_pos z.cells _ hm]
      exact Array.getElem_mem_toList hm)
    simp only [Nat.add_zero] at hst
    refine ⟨_, Nat.le_of_eq hl, ?_⟩
    obtain ⟨m, rfl⟩ : ∃ m, n = m + 1 := ⟨n - 1, by omega⟩
    simp [Builtin.clear_, run_underlying ht, hv, hst]
theorem two_cells {w : World} {g a : Nat} {s0 z0 : Value} (h0 : w.cell? ⟨g, a, none⟩ = some s0) (h1 : w.cell? ⟨g, a + 1, none⟩ = some z0) (u v : Value) :
    ((w.setCell ⟨g, a, none⟩ u).setCell ⟨g, a + 1, none⟩ v).cell? ⟨g, a, none⟩ = some u ∧ ((w.setCell ⟨g, a, none⟩ u).setCell ⟨g, a + 1, none⟩ v).cell? ⟨g, a + 1, none⟩ = some v ∧
    ∀ b o, (b ≠ g ∨ (o ≠ a ∧ o ≠ a + 1)) → ((w.setCell ⟨g, a, none⟩ u).setCell ⟨g, a + 1, none⟩ v).cell? ⟨b, o, none⟩ = w.cell? ⟨b, o, none⟩ := by
  refine ⟨?_, ?_, fun b o h => ?_⟩
  · rw [World.cell?_setCell_other _ _ _ _ (by simp)]
    exact World.cell?_setCell_same _ _ _ h0
  · exact World.cell?_setCell_same _ _ _ ((World.cell?_setCell_other _ _ _ _ (by simp)).trans h1)
  · rw [World.cell?_setCell_other _ _ _ _ (by intro e; injection e with e1 e2; omega), World.cell?_setCell_other _ _ _ _ (by intro e; injection e with e1 e2; omega)]
theorem size_set (b : Nat) : ∀ (vs : List Value) (o : Nat) (w : World), (w.setCells b o vs).heap.size = w.heap.size
  | [], _, _ => rfl
  | v :: r, o, w => by rw [World.setCells, size_set b r]; simp
theorem below_set {B : Nat} {a w : World} (h : Below B a w) (g o : Nat) (v : Value) (hg : B ≤ g) : Below B a (w.setCell ⟨g, o, none⟩ v) := by
  exact h.setCell hg v
end Go.Proofs.YtibcfmfihcgijaaDoor
