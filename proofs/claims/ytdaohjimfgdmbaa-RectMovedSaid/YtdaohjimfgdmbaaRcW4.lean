/- Contracts of the statements' fixed facts of rect, and the walk of RectOffsets. -/
import Derived.Test.YtdaohjimfgdmbaaRcW2
import Derived.Test.YtdaohjimfgdmbaaRcEq
namespace Go.Proofs.Ytdaohjimfgdmbaa
open Go.RowKit M
theorem roffset_any (a b c d x y v h : Int) (r1 r2 : Int) (h1 : sb a x = r1) (h2 : sb b y = r2) (w : World) :
    Calls Try.prog 31 #[.agg #[.int .i64 a, .int .i64 b, .int .i64 c, .int .i64 d], .agg #[.int .i64 x, .int .i64 y, .int .i64 v, .int .i64 h]] w fun e w' => e = .returned (.tuple #[.int .i64 r1, .int .i64 r2]) ∧ Below w.heap.size w w' := by
  subst h1 h2
  exact offset_any a b c d x y v h w
theorem awake13_any (w : World) : Calls Try.prog 10 #[] w fun e w' => e = .returned (.bool true) ∧ Below w.heap.size w w' := by
  have E1 : inR 1 0 2 1 2 0 = true := by decide
  have E2 : ad 1 2 = 3 := by decide
  go_enter Try.func10, Try.ntmps10
  go_wp2_with (first | (go_at_call 31; refine (roffset_any 5 5 0 0 2 9 0 0 3 (-4) (by decide) (by decide) _).mono ?_; rintro e9 w5 ⟨rfl, hb5⟩) | (go_at_call 32; refine (has_any _ _ _ _ _ _ _).mono ?_; rintro e9 w6 ⟨rfl, hb6⟩; rw [E1]) | (go_at_call 33; refine (right_any _ _ _ _ _).mono ?_; rintro e9 w7 ⟨rfl, hb7⟩; rw [E2]))
  go_ret
  exact ⟨rfl, below_join (below_join hb5 hb6) hb7⟩
end Go.Proofs.Ytdaohjimfgdmbaa
