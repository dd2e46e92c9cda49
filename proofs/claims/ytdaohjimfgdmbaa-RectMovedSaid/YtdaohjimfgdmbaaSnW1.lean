/- Entries in memory; contracts of what SnapOf hands to the library: the order of entries by their numbers, in the sort's words, and whether two have one number. -/
import Derived.Test.YtdaohjimfgdmbaaSnSort
import Derived.Test.YtdaohjimfgdmbaaCmp
import Derived.Test.YtdaohjimfgdmbaaMem
import Derived.Shelf.SlSortCmp.QuietGrown
import Derived.Deep.RegionHeld3
import Derived.Lib.Hide
namespace Go.Proofs.Ytdaohjimfgdmbaa
open Go.RowKit Go.Sort
namespace Sn
/-- an entry: its number, and its rectangle. -/
structure En where
  id : Int
  x : Int
  y : Int
  w : Int
  h : Int
deriving DecidableEq, Inhabited
end Sn
open Sn
def ec (t : En) : List Value := [.int .i64 t.id, .int .i64 t.x, .int .i64 t.y, .int .i64 t.w, .int .i64 t.h]
theorem ec_len (t : En) : (ec t).length = 5 := rfl
theorem ec_one (t : En) : ∀ v ∈ ec t, v.oneCell' = true := by
  intro v hv
  simp [ec] at hv
  rcases hv with rfl | rfl | rfl | rfl | rfl <;> rfl
def ecs (l : List En) : List Value := l.flatMap ec
theorem ecs_len (l : List En) : (ecs l).length = l.length * 5 := by
  unfold ecs
  induction l with
  | nil => rfl
  | cons x l ih => rw [List.flatMap_cons, List.length_append, ih, ec_len, List.length_cons]; omega
theorem ecs_one (l : List En) : ∀ v ∈ ecs l, v.oneCell' = true := by
  intro v hv
  obtain ⟨t, _, h⟩ := List.mem_flatMap.1 hv
  exact ec_one t v h
theorem ecs_app (a b : List En) : ecs (a ++ b) = ecs a ++ ecs b := List.flatMap_append
/-- w' is W behind some draws, with some blocks laid. -/
def Gr1 (W w' : World) : Prop := ∃ q os', w' = grow (W.drewN q) os'
theorem Gr1.refl (W : World) : Gr1 W W := ⟨0, #[], by rw [grow_empty]; rfl⟩
theorem Gr1.drewN {W w' : World} (h : Gr1 W w') (n : Nat) : Gr1 W (w'.drewN n) := by
  obtain ⟨q, os', rfl⟩ := h
  exact ⟨q + n, os', by rw [← World.drewN_drewN]; rfl⟩
theorem Gr1.drew {W w' : World} (h : Gr1 W w') : Gr1 W w'.drew := h.drewN 1
set_option maxHeartbeats 4000000 in
set_option maxRecDepth 100000 in
theorem order_g (x y : En) (w : World) :
    Calls Try.prog 38 #[.agg (ec x).toArray, .agg (ec y).toArray] w fun e w' => e = .returned (.int .i64 (cf En.id x y)) ∧ ∃ q os', w' = grow (w.drewN q) os' := by
  obtain ⟨a, b, c, d, e⟩ := x
  obtain ⟨a', b', c', d', e'⟩ := y
  unfold ec
  show Calls _ _ #[.agg #[.int .i64 a, .int .i64 b, .int .i64 c, .int .i64 d, .int .i64 e], .agg #[.int .i64 a', .int .i64 b', .int .i64 c', .int .i64 d', .int .i64 e']] _ _
  show Calls _ _ _ _ fun e w' => e = .returned (.int .i64 (c3 a a')) ∧ _
  go_enter Try.func38, Try.ntmps38
  go_wp2_with (go_at_call 39; refine (compare_any _ _ _).mono ?_; rintro e9 w9 ⟨rfl, rfl⟩)
  go_ret
  exact ⟨rfl, 0, _, by rw [alloc_eq_grow, alloc_eq_grow, grow_grow]; rfl⟩
set_option maxHeartbeats 4000000 in
set_option maxRecDepth 100000 in
theorem same_g (x y : En) (w : World) :
    Calls Try.prog 41 #[.agg (ec x).toArray, .agg (ec y).toArray] w fun e w' => e = .returned (.bool (decide (x.id = y.id))) ∧ ∃ q os', w' = grow (w.drewN q) os' := by
  obtain ⟨a, b, c, d, e⟩ := x
  obtain ⟨a', b', c', d', e'⟩ := y
  unfold ec
  show Calls _ _ #[.agg #[.int .i64 a, .int .i64 b, .int .i64 c, .int .i64 d, .int .i64 e], .agg #[.int .i64 a', .int .i64 b', .int .i64 c', .int .i64 d', .int .i64 e']] _ _
  show Calls _ _ _ _ fun e w' => e = .returned (.bool (decide (a = a'))) ∧ _
  go_enter Try.func41, Try.ntmps41
  go_wp2
  go_ret
  exact ⟨by first | rfl | simp [Int.decEq] | (congr 2; exact beq_eq_decide), 0, _, by rw [alloc_eq_grow, alloc_eq_grow, grow_grow]; rfl⟩
/-- what the sort asks of the order. -/
theorem cmp_lays (blk size : Nat) (w : World) : CmpLays Try.prog 38 #[] ec 5 (cf En.id) blk 0 size w := fun _ _ _ _ x y => order_g x y _
end Go.Proofs.Ytdaohjimfgdmbaa
