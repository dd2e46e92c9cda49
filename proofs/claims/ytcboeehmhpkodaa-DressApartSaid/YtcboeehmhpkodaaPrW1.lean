/- Contracts of layer 4's statements' own helpers: Few, Own, Is. -/
import Derived.Test.YtcboeehmhpkodaaPrMath
import Derived.Test.YtcboeehmhpkodaaClW1
import Derived.Test.YtcboeehmhpkodaaAppAt
import Derived.Deep.RegionHeld3
import Derived.Deep.RegionLaw
import Derived.StillTactics
namespace Go.Proofs.Ytcboeehmhpkodaa
open Go.RowKit M
theorem infoPPar : (Try.prog.info? 56).map (fun i => (i.zero, i.size, i.bytes)) = some (some (.agg #[.string { data := #[] }, .int .i64 0]), 2, 24) := by kernel_rfl
theorem at_pair {w : World} {A : Option Addr} {L : List Par} (h : At w A (pv L)) {k : Nat} (hk : k < L.length) :
    ∃ b off, A = some ⟨b, off, none⟩ ∧ b < w.heap.size ∧ w.cell? ⟨b, off + k * 2, none⟩ = some (.string L[k].1) ∧ w.cell? ⟨b, off + k * 2 + 1, none⟩ = some (.int .i64 L[k].2) := by
  obtain ⟨h1, h2⟩ := pv_at L k hk
  obtain ⟨b, off, e, hb, hc⟩ := h (fun e => by rw [e] at h1; cases h1)
  exact ⟨b, off, e, hb, hc _ _ h1, hc _ _ h2⟩
end Go.Proofs.Ytcboeehmhpkodaa
