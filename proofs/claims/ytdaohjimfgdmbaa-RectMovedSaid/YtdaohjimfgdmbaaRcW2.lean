/- Contracts of rect's Has and of the statements' fixed facts. -/
import Derived.Test.YtdaohjimfgdmbaaRcW1
namespace Go.Proofs.Ytdaohjimfgdmbaa
open Go.RowKit M
set_option maxHeartbeats 2000000 in
set_option maxRecDepth 100000 in
theorem has_any (x y v h p q : Int) (w : World) :
    Calls Try.prog 32 #[.agg #[.int .i64 x, .int .i64 y, .int .i64 v, .int .i64 h], .int .i64 p, .int .i64 q] w fun e w' => e = .returned (.bool (inR x y v h p q)) ∧ Below w.heap.size w w' := by
  unfold inR
  go_enter Try.func32, Try.ntmps32
  go_wp2_with (first | (go_at_call 33; refine (right_any _ _ _ _ _).mono ?_; rintro e w5 ⟨rfl, hb5⟩; have e0 := (hb5.cell (p := ⟨w.heap.size, 0, none⟩) (by simp)).trans (by simp : _ = some (.int .i64 x)); have e1 := (hb5.cell (p := ⟨w.heap.size, 1, none⟩) (by simp)).trans (by simp : _ = some (.int .i64 y)); have e2 := (hb5.cell (p := ⟨w.heap.size, 2, none⟩) (by simp)).trans (by simp : _ = some (.int .i64 v)); have e3 := (hb5.cell (p := ⟨w.heap.size, 3, none⟩) (by simp)).trans (by simp : _ = some (.int .i64 h))) | (go_at_call 55; refine (bottom_any _ _ _ _ _).mono ?_; rintro e w6 ⟨rfl, hb6⟩))
  all_goals
    go_ret
    refine ⟨ret_bool' (by simp [*] <;> omega), ?_⟩
    first
    | exact below_alloc _ _
    | exact (below_alloc _ _).trans ((by assumption : Below (w.alloc _).heap.size _ _).mono (by simp))
    | exact (below_alloc _ _).trans ((below_join hb5 hb6).mono (by simp))
end Go.Proofs.Ytdaohjimfgdmbaa
