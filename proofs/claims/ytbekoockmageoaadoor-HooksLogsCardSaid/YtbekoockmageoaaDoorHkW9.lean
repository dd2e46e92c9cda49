/- What was told of one kid, by the program: kidOf, Of. -/
import Derived.Test.YtbekoockmageoaaDoorHkKey
import Derived.Test.YtbekoockmageoaaDoorHkW8
import Derived.Test.YtbekoockmageoaaDoorHkW5
import Derived.Maps.AppendAt
import Derived.Handy
namespace Go.Proofs.YtbekoockmageoaaDoor
open Go.RowKit Hk
theorem infoInt : (Tryd.prog.info? 3).map (fun i => (i.zero, i.size, i.bytes)) = some (some (.int .i64 0), 1, 8) := by kernel_rfl
theorem iv_one (l : List Int) : ∀ u ∈ iv l, u.oneCell' = true := by
  intro u hu
  simp only [iv, List.mem_map] at hu
  obtain ⟨s, _, rfl⟩ := hu
  rfl
theorem iv_app (a b : List Int) : iv (a ++ b) = iv a ++ iv b := by simp [iv]
theorem hooks_le (L : List En) (q : Kid) : (hooksOf L q).length ≤ L.length := by
  unfold hooksOf
  rw [List.length_map]
  exact List.length_filter_le _ _
set_option maxHeartbeats 1000000 in
theorem kidOf_any (z0 z1 z2 : Int) (s : ByteArray) (w : World) : Calls Tryd.prog 24 #[.agg #[.int .i64 z0, .int .i64 z1, .int .i64 z2, .string s]] w fun e w' => e = .returned (.agg #[.int .i64 z0, .string s]) ∧ Below w.heap.size w w' := by
  go_enter Tryd.func24, Tryd.ntmps24
  go_wp2
  go_returns
  exact ⟨rfl, (below_alloc _ _).alloc (by simp) _⟩
end Go.Proofs.YtbekoockmageoaaDoor
