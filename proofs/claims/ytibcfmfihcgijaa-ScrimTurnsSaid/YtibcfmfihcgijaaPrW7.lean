/- Contract of the comparison that props' find hands to the library's search. -/
import Derived.Test.YtibcfmfihcgijaaPrW5
namespace Go.Proofs.Ytibcfmfihcgijaa
open Go.RowKit M
set_option maxHeartbeats 4000000 in
theorem find1_int (s t : ByteArray) (z : Int) (w : World) :
    Calls Try.prog 69 #[.agg #[.string s, .int .i64 z], .string t] w fun e w' => e = .returned (.int .i64 (Lib.compareBytes s.data.toList t.data.toList)) ∧ Below w.heap.size w w' := by
  go_enter Try.func69, Try.ntmps69
  go_wp2_with (first | (go_at_call 70; refine (Try.strings_Compare _ _ _).mono ?_; rintro e w6 ⟨rfl, hw6⟩; subst hw6))
  go_ret
  exact ⟨rfl, below_alloc _ _⟩
end Go.Proofs.Ytibcfmfihcgijaa
