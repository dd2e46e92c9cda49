/- SlotEnds, of any arguments. -/
import Derived.Test.YtfapghekakdpgaaSlE
namespace Go.Proofs.Ytfapghekakdpgaa
open Go.RowKit Gr Sl
theorem slotEnds_arg (w : World) (v0 v1 v2 : Value) (h0 : SksArg w v0) (h1 : StrsArg w v1) (h2 : NumsArg w v2) :
    Calls Try.prog 9 #[v0, v1, v2] w fun e w' => e = .returned (.bool true) ∧ Below w.heap.size w w' := by
  obtain ⟨A, n, c, L, rfl, hL⟩ := h0
  obtain ⟨B, m, d, K, rfl, hK⟩ := h1
  obtain ⟨Z, q, f, M, rfl, hM⟩ := h2
  obtain ⟨e0, e1, e2, e3, e4, _⟩ := hL
  obtain ⟨f0, f1, f2, f3, f4, _⟩ := hK
  obtain ⟨g0, g1, g2, g3, g4, _⟩ := hM
  rw [tc_sv] at f3
  rw [zc_iv] at g3
  exact slotEnds_any A n c L B m d K Z q f M w e0 (by omega) e3 f0 f3 g0 g3
end Go.Proofs.Ytfapghekakdpgaa
