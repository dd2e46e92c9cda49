/- The walk of WeaveCounts. -/
import Derived.Test.YtdojalflgfacgaaWeL4
namespace Go.Proofs.Ytdojalflgfacgaa
open Go.RowKit We
attribute [-go_sem] Builtin.append_
theorem once_same {l : List Int} (h : l.Nodup) : (once l).length = l.length := ((List.perm_ext_iff_of_nodup (once_nodup _) h).2 (fun _ => once_mem _ _)).length_eq
theorem few_ok {w : World} {A : Option Addr} {l : List Int} {n m : Nat} (h : At w A (iv l)) (hn : n = l.length) (ho : ∀ x ∈ l, OkI x) : At w A (iv (l.take m)) ∧ min n m = (l.take m).length ∧ ∀ x ∈ l.take m, OkI x :=
  ⟨by rw [iv_take]; exact h.take m, by rw [List.length_take]; omega, fun _ hx => ho _ (List.mem_of_mem_take hx)⟩
theorem stay_comm {a b : List Int} {r : List Nat} (hr : Rises a b r) : ∀ x ∈ stayIds a b r, x ∈ comm a b := by
  intro x hx
  unfold stayIds at hx
  obtain ⟨i, hi, rfl⟩ := List.mem_map.1 hx
  exact at_mem (hr.1 i hi)
end Go.Proofs.Ytdojalflgfacgaa
