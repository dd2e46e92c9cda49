/- Contract of the comparison that props' find hands to the library's search. -/
import Derived.Test.YtibcfmfihcgijaaDoorPrW5
namespace Go.Proofs.YtibcfmfihcgijaaDoor
open Go.RowKit M
set_option maxHeartbeats 4000000 in
theorem find1_int (s t : ByteArray) (z : Int) (w : World) :
    Calls Tryd.prog 60 #[.agg #[.string s, .int .i64 z], .string t] w fun e w' => e = .returned (.int .i64 (Lib.compareBytes s.data.toList t.data.toList)) ∧ Below w.heap.size w w' := by
  go_enter Tryd.func60, Tryd.ntmps60
  go_wp2_with (first | (go_at_call 61; refine (Tryd.strings_Compare _ _ _).mono ?_; rintro e w6 ⟨rfl, hw6⟩; subst hw6))
  go_ret
  exact ⟨rfl, below_alloc _ _⟩
end Go.Proofs.YtibcfmfihcgijaaDoor
