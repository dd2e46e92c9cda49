/- GroupKeeps, said of its argument. -/
import Derived.Test.YtjflmkeagheilaaGrK
import Derived.Test.YtjflmkeagheilaaGrOpen
namespace Go.Proofs.Ytjflmkeagheilaa
open Go.RowKit Gr
theorem groupKeeps_arg (w : World) (v0 : Value) (h0 : StaysArg w v0) :
    Calls Try.prog 5 #[v0] w fun e w' => e = .returned (.bool true) ∧ Below w.heap.size w w' := by
  obtain ⟨A, n, c, L, B, m, d, K, x, y, rfl, hL, hK⟩ := h0
  obtain ⟨e0, e1, e2, e3, e4, _⟩ := hL
  obtain ⟨f0, f1, f2, f3, f4, _⟩ := hK
  rw [tc_sv] at f3
  exact groupKeeps_any A B n c m d L K x y w e0 f0 (by omega) (by omega) e3 f3 e4 f4
end Go.Proofs.Ytjflmkeagheilaa
