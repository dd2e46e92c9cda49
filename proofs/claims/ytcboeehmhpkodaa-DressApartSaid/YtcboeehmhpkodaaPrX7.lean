/- slices.Grow of the nil map, slices.Concat of two maps of numbers (as props' Set calls them). -/
import Derived.Test.YtcboeehmhpkodaaPrW1
import Derived.Test.YtcboeehmhpkodaaPrW5
import Derived.Test.YtcboeehmhpkodaaAppAt
import Derived.Lib.AppendZerosOnto
namespace Go.Proofs.Ytcboeehmhpkodaa
open Go.RowKit M
theorem zero_cells_size (z : Value) (k : Nat) : (Builtin.zeroCells z.cells k).size = k * z.cells.size := by simp [Builtin.zeroCells]
set_option maxHeartbeats 2000000 in
set_option maxRecDepth 100000 in
theorem grow_nil (k : Nat) (w : World) (h0 : 0 < k) (hk : k ≤ 200000) :
    Calls Try.prog 52 #[.slice none 0 0, .int .i64 k] w fun e w' => ∃ v, e = .returned v ∧ w'.ownsRow w.heap.size 56 2 v 0 [] ∧ Below w.heap.size w w' := by
  obtain ⟨i0, hi, hz0, hz1, hz2⟩ := info_parts infoPPar
  have hrun : ∀ w ty, (Builtin.append_ #[34, 3] ty #[.slice none 0 0, .int .i64 k]).run Try.prog w = .ok (.slice (some ⟨w.heap.size, 0, none⟩) (0 + k) (grownCap w (0 + k) 0 56)) (w.drew.alloc (.cells ((#[] : Array Value) ++ Builtin.zeroCells (Value.agg #[.string { data := #[] }, .int .i64 0]).cells k ++ Builtin.zeroCells (Value.agg #[.string { data := #[] }, .int .i64 0]).cells (grownCap w (0 + k) 0 56 - (0 + k))) 56)) := fun w ty =>
    Go.Lib.run_append_grow_zeros (P := Try.prog) w 34 3 ty 56 i0 _ .i64 .i64 Try.underlying34 Try.underlying3 hi hz0 none 0 0 [] (by exact run_firstCells_none w.drew i0.size 0 0 0) k h0 (by rw [hz1]; decide) (by omega) (by omega) (by rw [hz2]; omega) (by rw [hz2]; simp [Builtin.nextslicecap]; split <;> omega)
  have hz3 : (Value.agg #[.string { data := #[] }, .int .i64 0]).cells.size = 2 := rfl
  have hgc := grownCap_ge w (0 + k) 0 56
  have hgm := grownCap_le_maxLen w (0 + k) 0 56 (by unfold maxLen; omega)
  have hrun := hrun w
  generalize hcp : grownCap w (0 + k) 0 56 = cp at hrun hgc hgm
  have hn : ¬ ((k : Int) < 0) := by omega
  have hp : (k : Int) > 0 := by omega
  have hge : (0 : Int) < (k : Int) := by omega
  go_enter Try.func52, Try.ntmps52
  go_wp2_with (at_builtin; refine Go.Lib.wpList_append_run _ rfl _ _ _ _ rfl _ _ rfl rfl _ _ (hrun _) ?_)
  go_ret
  refine ⟨_, rfl, ?_, (Below_drew (Below.refl _ _)).alloc (by simp) _⟩
  have hsz : (Builtin.zeroCells #[Value.string { data := #[] }, .int .i64 0] k ++ Builtin.zeroCells #[Value.string { data := #[] }, .int .i64 0] (cp - k)).size = cp * 2 := by
    have e1 := zero_cells_size (Value.agg #[.string { data := #[] }, .int .i64 0]) k
    have e2 := zero_cells_size (Value.agg #[.string { data := #[] }, .int .i64 0]) (cp - k)
    rw [hz3] at e1 e2
    rw [Array.size_append]
    simp only [Value.cells] at e1 e2
    omega
  exact World.ownsRow_made w.drew _ cp (Nat.le_refl _) hgm hsz
set_option maxHeartbeats 4000000 in
set_option maxRecDepth 100000 in
theorem concat_any (A B : Option Addr) (n c g : Nat) (l : List Par) (p : Par) (w : World) (hn : n = l.length) (hb : n ≤ 100000) (hA0 : A = none → n = 0 ∧ c = 0) (ha : At w A (pv l)) (hB0 : B ≠ none) (hb' : At w B (pv [p])) (hg : g < w.heap.size)
    (h0 : w.cell? ⟨g, 0, none⟩ = some (.slice A n c)) (h1 : w.cell? ⟨g, 1, none⟩ = some (.slice B 1 1)) :
    Calls Try.prog 40 #[.slice (some ⟨g, 0, none⟩) 2 2] w fun e w' => ∃ v, e = .returned v ∧ w'.ownsRow w.heap.size 56 2 v (n + 1) (pv (l ++ [p])) ∧ Below w.heap.size w w' := by
  obtain ⟨i0, hi, hz0, hz1, hz2⟩ := info_parts infoPPar
  have HA := Lib.hid ha
  have HB := Lib.hid hb'
  have HA0 := Lib.hid hA0
  have HB0 := Lib.hid hB0
  have HN := Lib.hid hn
  have HG := Lib.hid (grow_nil (n + 1) w (by omega) (by omega))
  have H0 := Lib.hid h0
  have H1 := Lib.hid h1
  clear ha hb' hA0 hB0 hn
  have hw1 : IntKind.i64.wrap ((n : Int) + 1) = (n : Int) + 1 := by rw [IntKind.wrap_i64]; omega
  have hnn : ¬ ((n : Int) < 0) := by omega
  have hn1 : ¬ ((n : Int) + 1 < 0) := by omega
  go_enter Try.func40, Try.ntmps40
  go_wp2
  refine wp_loop_rounds 3 ?_
  rw [rounds_succ]
  go_wp2
  rw [rounds_succ]
  go_wp2
  rw [rounds_succ]
  go_wp2_with fail
  refine HG.out.mono ?_
  rintro e w5 ⟨v5, rfl, hown5, hb5⟩
  have O5 := Lib.hid hown5
  have B5 := Lib.hid hb5
  have h0' := (hb5.cell (p := ⟨g, 0, none⟩) hg).trans H0.out
  have h1' := (hb5.cell (p := ⟨g, 1, none⟩) hg).trans H1.out
  obtain ⟨A5, c5, rfl, hc5, hm5, _⟩ := at_of_own' hown5
  have hs5 := hb5.size
  have F5 := Lib.hid (own_from hown5)
  have HL : Hid ((pv l).length = n * 2) := by show _ = _; rw [pv_len, HN.out]
  clear hown5 hb5 h0 h1 HG
  go_wp2
  refine wp_loop_rounds 3 ?_
  rw [rounds_succ]
  go_wp2_with (at_builtin; refine wpList_append_at rfl _ _ 34 rfl w.heap.size 56 i0 (.agg #[.string { data := #[] }, .int .i64 0]) 2 24 Try.underlying34 hi hz0 hz1 hz2 rfl (by decide) _ _ _ rfl O5.out A n c (pv l) rfl HA0.out HL.out (HA.out.below B5.out) (pv_one l) (by unfold maxLen; omega) (by omega) (by first | exact hs5 | omega) ?_; intro v6 w6 hown6 hgrow6; have O6 := Lib.hid hown6; have G6 := Lib.hid hgrow6; clear hown6 hgrow6)
  have B6 := Lib.hid (B5.out.grown G6.out hs5 (fun q hq => F5.out q hq))
  have hs6 := B6.out.size
  have F6 := Lib.hid (own_from O6.out)
  have h1'' := (B6.out.cell (p := ⟨g, 1, none⟩) hg).trans H1.out
  have O6' : Hid (w6.ownsRow w.heap.size 56 2 v6 n (pv l)) := by have := O6.out; rw [Nat.zero_add, List.nil_append] at this; exact this
  obtain ⟨A6, c6, rfl, hc6, hm6, _⟩ := at_of_own' O6'.out
  clear h0' h1' O6
  rw [rounds_succ]
  go_wp2_with (at_builtin; refine wpList_append_at rfl _ _ 34 rfl w.heap.size 56 i0 (.agg #[.string { data := #[] }, .int .i64 0]) 2 24 Try.underlying34 hi hz0 hz1 hz2 rfl (by decide) _ _ _ rfl O6'.out B 1 1 (pv [p]) rfl (fun h => absurd h HB0.out) rfl (HB.out.below B6.out) (pv_one [p]) (by unfold maxLen; omega) (by omega) (by first | exact hs6 | omega) ?_; intro v7 w7 hown7 hgrow7; have O7 := Lib.hid hown7; have G7 := Lib.hid hgrow7; clear hown7 hgrow7)
  have B7 := Lib.hid (B6.out.grown G7.out hs6 (fun q hq => F6.out q hq))
  rw [rounds_succ]
  go_wp2
  go_ret
  exact ⟨_, rfl, by rw [pv_app]; exact O7.out, B7.out⟩
end Go.Proofs.Ytcboeehmhpkodaa
