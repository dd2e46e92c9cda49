/- Contracts of what props hands to the library's sort: the name of a pair, and the comparison by names. -/
import Derived.Test.YtcboeehmhpkodaaPrW1
import Derived.Test.YtcboeehmhpkodaaShelf
namespace Go.Proofs.Ytcboeehmhpkodaa
open Go.RowKit M
theorem of1_any (s : ByteArray) (z : Int) (w : World) :
    Calls Try.prog 38 #[.agg #[.string s, .int .i64 z]] w fun e w' => e = .returned (.string s) ∧ Below w.heap.size w w' := by
  go_enter Try.func38, Try.ntmps38
  go_wp2
  go_ret
  exact ⟨rfl, below_alloc _ _⟩
theorem below_heap {B : Nat} {a w w' : World} (h : Below B a w) (h1 : w'.heap = w.heap) (h2 : w'.os = w.os) (h3 : w'.tape = w.tape) (h4 : w'.output = w.output) : Below B a w' :=
  ⟨h2.trans h.os, h3.trans h.tape, h4.trans h.output, by rw [h1]; exact h.size, fun k hk => by rw [h1]; exact h.block k hk⟩
theorem below_join {a b c : World} (h : Below a.heap.size a b) (k : Below b.heap.size b c) : Below a.heap.size a c := h.trans (k.mono h.size)
set_option maxHeartbeats 4000000 in
set_option maxRecDepth 100000 in
theorem latest1_any (s t : ByteArray) (y z : Int) (B : Nat) (w : World) (hB : w.cell? ⟨B, 0, none⟩ = some (.func (.func 38) #[] #[])) :
    Calls Try.prog 50 #[.agg #[.string s, .int .i64 y], .agg #[.string t, .int .i64 z], .pointer (some ⟨B, 0, none⟩)] w fun e w' => e = .returned (.int .i64 (Lib.compareBytes s.data.toList t.data.toList)) ∧ Below w.heap.size w w' := by
  have hlt := World.block_lt_of_cell? w _ hB
  have hlt' : B < w.heap.size := hlt
  go_enter Try.func50, Try.ntmps50
  go_wp2_with fail
  obtain ⟨W, hW⟩ : ∃ W, W = (w.alloc (.cells #[.string s, .int .i64 y] 56)).alloc (.cells #[.string t, .int .i64 z] 56) := ⟨_, rfl⟩
  have f0 : W.cell? ⟨B, 0, none⟩ = some (.func (.func 38) #[] #[]) := by rw [hW]; exact Lib.cell?_alloc_some _ (Lib.cell?_alloc_some _ hB)
  have f1 : W.cell? ⟨w.heap.size, 0, none⟩ = some (.string s) := by rw [hW]; simp
  have f2 : W.cell? ⟨w.heap.size, 1, none⟩ = some (.int .i64 y) := by rw [hW]; simp
  have f3 : W.cell? ⟨w.heap.size + 1, 0, none⟩ = some (.string t) := by rw [hW]; simp
  have f4 : W.cell? ⟨w.heap.size + 1, 1, none⟩ = some (.int .i64 z) := by rw [hW]; simp
  have hs : W.heap.size = w.heap.size + 2 := by rw [hW]; simp
  have HWB : Hid (Below w.heap.size w W) := by show Below _ _ _; rw [hW]; exact (below_alloc _ _).alloc (by simp) _
  have l0 : B < W.heap.size := by omega
  have l1 : w.heap.size < W.heap.size := by omega
  have l2 : w.heap.size + 1 < W.heap.size := by omega
  have HS := Lib.hid hs
  have HBB := Below.refl W.heap.size W
  rw [← hW]
  clear hW hs hB
  generalize w.heap.size = g at f1 f2 f3 f4 l1 l2
  go_region_held3 (fun w' => w'.cell? ⟨B, 0, none⟩ = some (.func (.func 38) #[] #[]) ∧ w'.cell? ⟨g, 0, none⟩ = some (.string s) ∧ w'.cell? ⟨g, 1, none⟩ = some (.int .i64 y) ∧ w'.cell? ⟨g + 1, 0, none⟩ = some (.string t) ∧ w'.cell? ⟨g + 1, 1, none⟩ = some (.int .i64 z) ∧ Below W.heap.size W w')
    (first | (refine ⟨?_, ?_, ?_, ?_, ?_, ?_⟩ <;> first | assumption | exact Below_drew HBB | exact below_heap HBB rfl rfl rfl rfl) | go_keep | exact below_heap HBB rfl rfl rfl rfl)
    (first | (go_at_call 38; refine (of1_any _ _ _).mono ?_; rintro e w5 ⟨rfl, hb5⟩; go_split_ands; have hB5 : Below W.heap.size W w5 := below_join (by assumption) hb5; have e0 := (hB5.cell (p := ⟨B, 0, none⟩) l0).trans f0; have e1 := (hB5.cell (p := ⟨g, 0, none⟩) l1).trans f1; have e2 := (hB5.cell (p := ⟨g, 1, none⟩) l1).trans f2; have e3 := (hB5.cell (p := ⟨g + 1, 0, none⟩) l2).trans f3; have e4 := (hB5.cell (p := ⟨g + 1, 1, none⟩) l2).trans f4) | (go_at_call 47; refine (Try.strings_Compare _ _ _).mono ?_; rintro e w6 ⟨rfl, hw6⟩; subst hw6))
  go_split_ands
  have hfin := Lib.hid (show Below W.heap.size W w6 by assumption)
  go_wp2
  go_ret
  exact ⟨rfl, HWB.out.trans (hfin.out.mono (by have := HS.out; omega))⟩
end Go.Proofs.Ytcboeehmhpkodaa
