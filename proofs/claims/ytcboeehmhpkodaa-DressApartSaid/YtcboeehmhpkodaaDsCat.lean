/- slices.Grow of a nil list, slices.Concat of two lists, of texts. -/
import Derived.Test.YtcboeehmhpkodaaDsW2
import Derived.Lib.AppendZerosOnto
namespace Go.Proofs.Ytcboeehmhpkodaa
open Go.RowKit M Ds
set_option linter.unusedVariables false
namespace Ds
theorem zero_cells_sizeT (z : Value) (k : Nat) : (Builtin.zeroCells z.cells k).size = k * z.cells.size := by simp [Builtin.zeroCells]
set_option maxHeartbeats 2000000 in
set_option maxRecDepth 100000 in
theorem grow_nilT (k : Nat) (w : World) (h0 : 0 < k) (hk : k ≤ 200000) :
    Calls Try.prog 34 #[.slice none 0 0, .int .i64 k] w fun e w' => ∃ v, e = .returned v ∧ w'.ownsRow w.heap.size 9 1 v 0 [] ∧ Below w.heap.size w w' := by
  obtain ⟨i0, hi, hz0, hz1, hz2⟩ := info_parts infoStr2
  have hrun : ∀ w ty, (Builtin.append_ #[28, 3] ty #[.slice none 0 0, .int .i64 k]).run Try.prog w = .ok (.slice (some ⟨w.heap.size, 0, none⟩) (0 + k) (grownCap w (0 + k) 0 9)) (w.drew.alloc (.cells ((#[] : Array Value) ++ Builtin.zeroCells (Value.string { data := #[] }).cells k ++ Builtin.zeroCells (Value.string { data := #[] }).cells (grownCap w (0 + k) 0 9 - (0 + k))) 9)) := fun w ty =>
    Go.Lib.run_append_grow_zeros (P := Try.prog) w 28 3 ty 9 i0 _ .i64 .i64 Try.underlying28 Try.underlying3 hi hz0 none 0 0 [] (by exact run_firstCells_none w.drew i0.size 0 0 0) k h0 (by rw [hz1]; decide) (by omega) (by omega) (by rw [hz2]; omega) (by rw [hz2]; simp [Builtin.nextslicecap]; split <;> omega)
  have hz3 : (Value.string { data := #[] }).cells.size = 1 := rfl
  have hgc := grownCap_ge w (0 + k) 0 9
  have hgm := grownCap_le_maxLen w (0 + k) 0 9 (by unfold maxLen; omega)
  have hrun := hrun w
  generalize hcp : grownCap w (0 + k) 0 9 = cp at hrun hgc hgm
  have hn : ¬ ((k : Int) < 0) := by omega
  have hp : (k : Int) > 0 := by omega
  have hge : (0 : Int) < (k : Int) := by omega
  go_enter Try.func34, Try.ntmps34
  go_wp2_with (at_builtin; refine Go.Lib.wpList_append_run _ rfl _ _ _ _ rfl _ _ rfl rfl _ _ (hrun _) ?_)
  go_ret
  refine ⟨_, rfl, ?_, (Below_drew (Below.refl _ _)).alloc (by simp) _⟩
  have hsz : (Builtin.zeroCells #[Value.string { data := #[] }] k ++ Builtin.zeroCells #[Value.string { data := #[] }] (cp - k)).size = cp * 1 := by
    have e1 := zero_cells_sizeT (Value.string { data := #[] }) k
    have e2 := zero_cells_sizeT (Value.string { data := #[] }) (cp - k)
    rw [hz3] at e1 e2
    rw [Array.size_append]
    simp only [Value.cells] at e1 e2
    omega
  exact World.ownsRow_made w.drew _ cp (Nat.le_refl _) hgm hsz
set_option maxHeartbeats 2000000 in
set_option maxRecDepth 100000 in
theorem grow_zeroT (w : World) :
    Calls Try.prog 34 #[.slice none 0 0, .int .i64 0] w fun e w' => e = .returned (.slice none 0 0) ∧ w' = w := by
  go_enter Try.func34, Try.ntmps34
  go_wp2
  go_ret
  exact ⟨rfl, rfl⟩
theorem grow_anyT (k : Nat) (w : World) (hk : k ≤ 200000) :
    Calls Try.prog 34 #[.slice none 0 0, .int .i64 k] w fun e w' => ∃ v, e = .returned v ∧ w'.ownsRow w.heap.size 9 1 v 0 [] ∧ Below w.heap.size w w' := by
  rcases Nat.eq_zero_or_pos k with h | h
  · subst h
    refine (grow_zeroT w).mono ?_
    rintro e w' ⟨rfl, rfl⟩
    exact ⟨_, rfl, World.ownsRow_nil _ _ _ _, Below.refl _ _⟩
  · exact grow_nilT k w h hk
set_option maxHeartbeats 4000000 in
set_option maxRecDepth 100000 in
theorem concat_anyT (A B : Option Addr) (n c m d g : Nat) (l p : List ByteArray) (w : World) (hn : n = l.length) (hb : n ≤ 100000) (hA0 : A = none → n = 0 ∧ c = 0) (ha : At w A (sv l)) (hB0 : B = none → m = 0 ∧ d = 0) (hm : m = p.length) (hbm : m ≤ 1000) (hb' : At w B (sv p)) (hg : g < w.heap.size)
    (h0 : w.cell? ⟨g, 0, none⟩ = some (.slice A n c)) (h1 : w.cell? ⟨g, 1, none⟩ = some (.slice B m d)) :
    Calls Try.prog 22 #[.slice (some ⟨g, 0, none⟩) 2 2] w fun e w' => ∃ v, e = .returned v ∧ w'.ownsRow w.heap.size 9 1 v (n + m) (sv (l ++ p)) ∧ Below w.heap.size w w' := by
  obtain ⟨i0, hi, hz0, hz1, hz2⟩ := info_parts infoStr2
  have HA := Lib.hid ha
  have HB := Lib.hid hb'
  have HA0 := Lib.hid hA0
  have HB0 := Lib.hid hB0
  have HN := Lib.hid hn
  have HG := Lib.hid (grow_anyT (n + m) w (by omega))
  have HM := Lib.hid hm
  have H0 := Lib.hid h0
  have H1 := Lib.hid h1
  clear ha hb' hA0 hB0 hn hm
  have hw1 : IntKind.i64.wrap ((n : Int) + (m : Int)) = (n : Int) + (m : Int) := by rw [IntKind.wrap_i64]; omega
  have hw2 : IntKind.i64.wrap (n : Int) = (n : Int) := by rw [IntKind.wrap_i64]; omega
  have hnn : ¬ ((n : Int) < 0) := by omega
  have hn1 : ¬ ((n : Int) + (m : Int) < 0) := by omega
  go_enter Try.func22, Try.ntmps22
  go_wp2
  refine wp_loop_rounds 3 ?_
  rw [rounds_succ]
  go_wp2
  rw [rounds_succ]
  go_wp2
  rw [rounds_succ]
  go_wp2_with fail
  refine HG.out.mono ?_
  rintro e w5 ⟨v5, rfl, hown5, hb5⟩
  have O5 := Lib.hid hown5
  have B5 := Lib.hid hb5
  have h0' := (hb5.cell (p := ⟨g, 0, none⟩) hg).trans H0.out
  have h1' := (hb5.cell (p := ⟨g, 1, none⟩) hg).trans H1.out
  obtain ⟨A5, c5, rfl, hc5, hm5, _⟩ := at_of_own' hown5
  have hs5 := hb5.size
  have F5 := Lib.hid (own_from hown5)
  have HL : Hid ((sv l).length = n * 1) := by show _ = _; rw [sv_len, HN.out, Nat.mul_one]
  have HLp : Hid ((sv p).length = m * 1) := by show _ = _; rw [sv_len, HM.out, Nat.mul_one]
  clear hown5 hb5 h0 h1 HG
  go_wp2
  refine wp_loop_rounds 3 ?_
  rw [rounds_succ]
  go_wp2_with (at_builtin; refine wpList_append_at rfl _ _ 28 rfl w.heap.size 9 i0 (.string { data := #[] }) 1 16 Try.underlying28 hi hz0 hz1 hz2 rfl (by decide) _ _ _ rfl O5.out A n c (sv l) rfl HA0.out HL.out (HA.out.below B5.out) (sv_one l) (by unfold maxLen; omega) (by omega) (by first | exact hs5 | omega) ?_; intro v6 w6 hown6 hgrow6; have O6 := Lib.hid hown6; have G6 := Lib.hid hgrow6; clear hown6 hgrow6)
  have B6 := Lib.hid (B5.out.grown G6.out hs5 (fun q hq => F5.out q hq))
  have hs6 := B6.out.size
  have F6 := Lib.hid (own_from O6.out)
  have h1'' := (B6.out.cell (p := ⟨g, 1, none⟩) hg).trans H1.out
  have O6' : Hid (w6.ownsRow w.heap.size 9 1 v6 n (sv l)) := by have := O6.out; rw [Nat.zero_add, List.nil_append] at this; exact this
  obtain ⟨A6, c6, rfl, hc6, hm6, _⟩ := at_of_own' O6'.out
  clear h0' h1' O6
  rw [rounds_succ]
  go_wp2_with (at_builtin; refine wpList_append_at rfl _ _ 28 rfl w.heap.size 9 i0 (.string { data := #[] }) 1 16 Try.underlying28 hi hz0 hz1 hz2 rfl (by decide) _ _ _ rfl O6'.out B m d (sv p) rfl HB0.out HLp.out (HB.out.below B6.out) (sv_one p) (by unfold maxLen; omega) (by omega) (by first | exact hs6 | omega) ?_; intro v7 w7 hown7 hgrow7; have O7 := Lib.hid hown7; have G7 := Lib.hid hgrow7; clear hown7 hgrow7)
  have B7 := Lib.hid (B6.out.grown G7.out hs6 (fun q hq => F6.out q hq))
  rw [rounds_succ]
  go_wp2
  go_ret
  exact ⟨_, rfl, by rw [sv_app]; exact O7.out, B7.out⟩
end Ds
end Go.Proofs.Ytcboeehmhpkodaa
