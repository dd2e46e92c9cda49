/- slices.Grow of the nil map, slices.Concat of two maps, and props' Set, of texts. -/
import Derived.Test.YtcboeehmhpkodaaPrX8
import Derived.Test.YtcboeehmhpkodaaPrU3
namespace Go.Proofs.Ytcboeehmhpkodaa
open Go.RowKit M
set_option maxHeartbeats 2000000 in
set_option maxRecDepth 100000 in
theorem grow_nilS (k : Nat) (w : World) (h0 : 0 < k) (hk : k ≤ 200000) :
    Calls Try.prog 51 #[.slice none 0 0, .int .i64 k] w fun e w' => ∃ v, e = .returned v ∧ w'.ownsRow w.heap.size 42 2 v 0 [] ∧ Below w.heap.size w w' := by
  obtain ⟨i0, hi, hz0, hz1, hz2⟩ := info_parts infoPParS
  have hrun : ∀ w ty, (Builtin.append_ #[32, 3] ty #[.slice none 0 0, .int .i64 k]).run Try.prog w = .ok (.slice (some ⟨w.heap.size, 0, none⟩) (0 + k) (grownCap w (0 + k) 0 42)) (w.drew.alloc (.cells ((#[] : Array Value) ++ Builtin.zeroCells (Value.agg #[.string { data := #[] }, .string { data := #[] }]).cells k ++ Builtin.zeroCells (Value.agg #[.string { data := #[] }, .string { data := #[] }]).cells (grownCap w (0 + k) 0 42 - (0 + k))) 42)) := fun w ty =>
    Go.Lib.run_append_grow_zeros (P := Try.prog) w 32 3 ty 42 i0 _ .i64 .i64 Try.underlying32 Try.underlying3 hi hz0 none 0 0 [] (by exact run_firstCells_none w.drew i0.size 0 0 0) k h0 (by rw [hz1]; decide) (by omega) (by omega) (by rw [hz2]; omega) (by rw [hz2]; simp [Builtin.nextslicecap]; split <;> omega)
  have hz3 : (Value.agg #[.string { data := #[] }, .string { data := #[] }]).cells.size = 2 := rfl
  have hgc := grownCap_ge w (0 + k) 0 42
  have hgm := grownCap_le_maxLen w (0 + k) 0 42 (by unfold maxLen; omega)
  have hrun := hrun w
  generalize hcp : grownCap w (0 + k) 0 42 = cp at hrun hgc hgm
  have hn : ¬ ((k : Int) < 0) := by omega
  have hp : (k : Int) > 0 := by omega
  have hge : (0 : Int) < (k : Int) := by omega
  go_enter Try.func51, Try.ntmps51
  go_wp2_with (at_builtin; refine Go.Lib.wpList_append_run _ rfl _ _ _ _ rfl _ _ rfl rfl _ _ (hrun _) ?_)
  go_ret
  refine ⟨_, rfl, ?_, (Below_drew (Below.refl _ _)).alloc (by simp) _⟩
  have hsz : (Builtin.zeroCells #[Value.string { data := #[] }, .string { data := #[] }] k ++ Builtin.zeroCells #[Value.string { data := #[] }, .string { data := #[] }] (cp - k)).size = cp * 2 := by
    have e1 := zero_cells_size (Value.agg #[.string { data := #[] }, .string { data := #[] }]) k
    have e2 := zero_cells_size (Value.agg #[.string { data := #[] }, .string { data := #[] }]) (cp - k)
    rw [hz3] at e1 e2
    rw [Array.size_append]
    simp only [Value.cells] at e1 e2
    omega
  exact World.ownsRow_made w.drew _ cp (Nat.le_refl _) hgm hsz
set_option maxHeartbeats 4000000 in
set_option maxRecDepth 100000 in
theorem concat_anyS (A B : Option Addr) (n c g : Nat) (l : List ParS) (p : ParS) (w : World) (hn : n = l.length) (hb : n ≤ 100000) (hA0 : A = none → n = 0 ∧ c = 0) (ha : At w A (pvS l)) (hB0 : B ≠ none) (hb' : At w B (pvS [p])) (hg : g < w.heap.size)
    (h0 : w.cell? ⟨g, 0, none⟩ = some (.slice A n c)) (h1 : w.cell? ⟨g, 1, none⟩ = some (.slice B 1 1)) :
    Calls Try.prog 39 #[.slice (some ⟨g, 0, none⟩) 2 2] w fun e w' => ∃ v, e = .returned v ∧ w'.ownsRow w.heap.size 42 2 v (n + 1) (pvS (l ++ [p])) ∧ Below w.heap.size w w' := by
  obtain ⟨i0, hi, hz0, hz1, hz2⟩ := info_parts infoPParS
  have HA := Lib.hid ha
  have HB := Lib.hid hb'
  have HA0 := Lib.hid hA0
  have HB0 := Lib.hid hB0
  have HN := Lib.hid hn
  have HG := Lib.hid (grow_nilS (n + 1) w (by omega) (by omega))
  have H0 := Lib.hid h0
  have H1 := Lib.hid h1
  clear ha hb' hA0 hB0 hn
  have hw1 : IntKind.i64.wrap ((n : Int) + 1) = (n : Int) + 1 := by rw [IntKind.wrap_i64]; omega
  have hnn : ¬ ((n : Int) < 0) := by omega
  have hn1 : ¬ ((n : Int) + 1 < 0) := by omega
  go_enter Try.func39, Try.ntmps39
  go_wp2
  refine wp_loop_rounds 3 ?_
  rw [rounds_succ]
  go_wp2
  rw [rounds_succ]
  go_wp2
  rw [rounds_succ]
  go_wp2_with fail
  refine HG.out.mono ?_
  rintro e w5 ⟨v5, rfl, hown5, hb5⟩
  have O5 := Lib.hid hown5
  have B5 := Lib.hid hb5
  have h0' := (hb5.cell (p := ⟨g, 0, none⟩) hg).trans H0.out
  have h1' := (hb5.cell (p := ⟨g, 1, none⟩) hg).trans H1.out
  obtain ⟨A5, c5, rfl, hc5, hm5, _⟩ := at_of_own' hown5
  have hs5 := hb5.size
  have F5 := Lib.hid (own_from hown5)
  have HL : Hid ((pvS l).length = n * 2) := by show _ = _; rw [pv_lenS, HN.out]
  clear hown5 hb5 h0 h1 HG
  go_wp2
  refine wp_loop_rounds 3 ?_
  rw [rounds_succ]
  go_wp2_with (at_builtin; refine wpList_append_at rfl _ _ 32 rfl w.heap.size 42 i0 (.agg #[.string { data := #[] }, .string { data := #[] }]) 2 32 Try.underlying32 hi hz0 hz1 hz2 rfl (by decide) _ _ _ rfl O5.out A n c (pvS l) rfl HA0.out HL.out (HA.out.below B5.out) (pv_oneS l) (by unfold maxLen; omega) (by omega) (by first | exact hs5 | omega) ?_; intro v6 w6 hown6 hgrow6; have O6 := Lib.hid hown6; have G6 := Lib.hid hgrow6; clear hown6 hgrow6)
  have B6 := Lib.hid (B5.out.grown G6.out hs5 (fun q hq => F5.out q hq))
  have hs6 := B6.out.size
  have F6 := Lib.hid (own_from O6.out)
  have h1'' := (B6.out.cell (p := ⟨g, 1, none⟩) hg).trans H1.out
  have O6' : Hid (w6.ownsRow w.heap.size 42 2 v6 n (pvS l)) := by have := O6.out; rw [Nat.zero_add, List.nil_append] at this; exact this
  obtain ⟨A6, c6, rfl, hc6, hm6, _⟩ := at_of_own' O6'.out
  clear h0' h1' O6
  rw [rounds_succ]
  go_wp2_with (at_builtin; refine wpList_append_at rfl _ _ 32 rfl w.heap.size 42 i0 (.agg #[.string { data := #[] }, .string { data := #[] }]) 2 32 Try.underlying32 hi hz0 hz1 hz2 rfl (by decide) _ _ _ rfl O6'.out B 1 1 (pvS [p]) rfl (fun h => absurd h HB0.out) rfl (HB.out.below B6.out) (pv_oneS [p]) (by unfold maxLen; omega) (by omega) (by first | exact hs6 | omega) ?_; intro v7 w7 hown7 hgrow7; have O7 := Lib.hid hown7; have G7 := Lib.hid hgrow7; clear hown7 hgrow7)
  have B7 := Lib.hid (B6.out.grown G7.out hs6 (fun q hq => F6.out q hq))
  rw [rounds_succ]
  go_wp2
  go_ret
  exact ⟨_, rfl, by rw [pv_appS]; exact O7.out, B7.out⟩
set_option maxHeartbeats 2000000 in
theorem set_anyS (A : Option Addr) (n c : Nat) (l : List ParS) (x : ByteArray) (z : ByteArray) (w : World) (hn : n = l.length) (hb : n ≤ 10000) (hA0 : A = none → n = 0 ∧ c = 0) (ha : At w A (pvS l)) :
    Calls Try.prog 25 #[.slice A n c, .string x, .string z] w fun e w' => ∃ v, e = .returned v ∧ w'.ownsRow w.heap.size 42 2 v (ofP (l ++ [(x, z)])).length (pvS (ofP (l ++ [(x, z)]))) ∧ Below w.heap.size w w' := by
  obtain ⟨W, hW⟩ : ∃ W, W = (w.alloc (.cells #[.string x, .string z] 42)).alloc (.cells #[.slice A n c, .slice (some ⟨w.heap.size, 0, none⟩) 1 1] 32) := ⟨_, rfl⟩
  have hws : W.heap.size = w.heap.size + 2 := by rw [hW]; simp
  have hwb : Below w.heap.size w W := by rw [hW]; exact (below_alloc _ _).alloc (by simp) _
  have HC := Lib.hid (concat_anyS A (some ⟨w.heap.size, 0, none⟩) n c (w.heap.size + 1) l (x, z) W hn (by omega) hA0 (ha.below hwb) (fun h => nomatch h) (fun _ => ⟨_, 0, rfl, by omega, fun j u hu => by
    rw [hW]
    refine Lib.cell?_alloc_some _ ?_
    have e : pvS [(x, z)] = [.string x, .string z] := rfl
    rw [e] at hu
    match j, hu with
    | 0, hu => simp at hu; subst hu; simp
    | 1, hu => simp at hu; subst hu; simp⟩) (by omega) (by rw [hW]; simp) (by rw [hW]; simp))
  have hl1 : n + 1 = (l ++ [(x, z)]).length := by simp [hn]
  have HL := Lib.hid hl1
  have HWB := Lib.hid hwb
  have HWE := Lib.hid hW
  clear hn hA0 ha hl1 hwb
  go_enter Try.func25, Try.ntmps25
  go_wp2_with fail
  rw [← hW]
  clear hW
  refine HC.out.mono ?_
  rintro e w1 ⟨v, rfl, hown, hbel⟩
  obtain ⟨A1, c1, rfl, _, _, hat⟩ := at_of_own' hown
  have HAT := Lib.hid hat
  have HAN := Lib.hid (own_addr hown)
  have HB := Lib.hid (HWB.out.trans (hbel.mono HWB.out.size))
  clear hown hat hbel HC
  go_wp2_with fail
  refine (of_anyS A1 _ c1 (l ++ [(x, z)]) w1 HL.out (by omega) HAN.out HAT.out).mono ?_
  rintro e w2 ⟨v2, rfl, hown2, hb2⟩
  have HO := Lib.hid (own_mono hown2 HB.out.size)
  have HB2 := Lib.hid (HB.out.trans (hb2.mono HB.out.size))
  clear hown2 hb2
  go_wp2
  go_ret
  exact ⟨_, rfl, HO.out, HB2.out⟩
end Go.Proofs.Ytcboeehmhpkodaa
