/- GroupOnce, said of its arguments. -/
import Derived.Test.YtjflmkeagheilaaGrO
import Derived.Test.YtjflmkeagheilaaGrOpen
namespace Go.Proofs.Ytjflmkeagheilaa
open Go.RowKit Gr
theorem groupOnce_arg (w : World) (v0 : Value) (h0 : GksArg w v0) (v1 : Value) (h1 : StrsArg w v1) :
    Calls Try.prog 4 #[v0, v1] w fun e w' => e = .returned (.bool true) ∧ Below w.heap.size w w' := by
  obtain ⟨A, n, c, L, rfl, hL⟩ := h0
  obtain ⟨B, m, d, K, rfl, hK⟩ := h1
  obtain ⟨e0, e1, e2, e3, e4, _⟩ := hL
  obtain ⟨f0, f1, f2, f3, f4, _⟩ := hK
  rw [tc_sv] at f3
  exact groupOnce_any A B n c m d L K w e0 f0 (by omega) (by omega) e3 f3 e4 f4
end Go.Proofs.Ytjflmkeagheilaa
