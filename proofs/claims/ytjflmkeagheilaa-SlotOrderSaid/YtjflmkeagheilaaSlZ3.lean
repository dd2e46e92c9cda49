/- SlotOrder, of any arguments. -/
import Derived.Test.YtjflmkeagheilaaSlO
namespace Go.Proofs.Ytjflmkeagheilaa
open Go.RowKit Gr Sl
theorem slotOrder_arg (w : World) (v0 v1 v2 : Value) (h0 : SksArg w v0) (h1 : TextArg w v1) (h2 : IntArg w v2) :
    Calls Try.prog 8 #[v0, v1, v2] w fun e w' => e = .returned (.bool true) ∧ Below w.heap.size w w' := by
  obtain ⟨A, n, c, L, rfl, hL⟩ := h0
  obtain ⟨s, rfl, _⟩ := h1
  obtain ⟨m, rfl, _⟩ := h2
  obtain ⟨e0, e1, e2, e3, e4, _⟩ := hL
  exact slotOrder_any A n c L s m w e0 (by omega) e3
end Go.Proofs.Ytjflmkeagheilaa
