/- Contract of the document's Classes. -/
import Derived.Test.YtcboeehmhpkodaaDsW2
namespace Go.Proofs.Ytcboeehmhpkodaa
open Go.RowKit M Ds
set_option linter.unusedVariables false
set_option linter.unusedSimpArgs false
attribute [-go_sem] Builtin.append_
namespace Ds
theorem below_more {a w : World} (h : Below a.heap.size a w) (o : Obj) : Below a.heap.size a (w.alloc o) := h.alloc h.size o
set_option maxHeartbeats 8000000 in
set_option maxRecDepth 100000 in
theorem rclasses_any (k m x y : Int) (w : World) : Calls Try.prog 14 #[.agg #[.int .i64 k, .int .i64 m, .int .i64 x, .int .i64 y]] w fun e w' => ∃ v, e = .returned v ∧ w'.ownsRow w.heap.size 9 1 v (marks k m).length (sv (marks k m)) ∧ Below w.heap.size w w' := by
  obtain ⟨i0, hi, hz0, hz1, hz2⟩ := info_parts infoStr2
  by_cases h1 : k = 1
  · subst h1
    have HK : Hid (kindM 1 = [tWait]) := kindM1
    by_cases hm : m = 0
    · have bm : (m != 0) = false := by simp [hm]
      have HM := Lib.hid hm
      clear hm
      go_enter Try.func14, Try.ntmps14
      go_wp2_with (at_builtin; refine wpList_append_at rfl _ _ 28 rfl (w.heap.size + 1) 9 i0 (.string { data := #[] }) 1 16 Try.underlying28 hi hz0 hz1 hz2 rfl (by decide) _ 0 [] rfl (own_below (own_below (own_below (own_below (own_below (own_below (own_below (own_made (w.alloc _) _ (by simp) (Nat.le_refl _)) (below_alloc _ _)) (below_alloc _ _)) (below_alloc _ _)) (below_alloc _ _)) (below_alloc _ _)) (below_alloc _ _)) (below_alloc _ _)) (some ⟨_, 0, none⟩) 1 1 (sv [tWait]) rfl (fun h => nomatch h) rfl (At.alloc (At.alloc (At.alloc (At.alloc (At.alloc (At.alloc (at_new _ #[.string ⟨#[116, 45, 119, 97, 105, 116]⟩] 9 _ (by simp) _ rfl) _) _) _) _) _) _) (sv_one _) (by unfold maxLen; omega) (by omega) (by simp <;> omega) ?_; intro v3 w3 hown3 hgrow3a; have hgrow3 : World.grownBy _ w3 (some (w.heap.size + 1)) := hgrow3a; clear hgrow3a; have m3 : w3.cell? ⟨w.heap.size, 1, none⟩ = some (.int .i64 m) := hgrow3.cell (Lib.cell?_alloc_some _ (Lib.cell?_alloc_some _ (Lib.cell?_alloc_some _ (Lib.cell?_alloc_some _ (Lib.cell?_alloc_some _ (Lib.cell?_alloc_some _ (Lib.cell?_alloc_some _ (Lib.cell?_alloc_some _ (by simp))))))))) (by simp); have hb3 : Below w.heap.size w w3 := (below_more (below_more (below_more (below_more (below_more (below_more (below_more (below_more (below_alloc w _) _) _) _) _) _) _) _) _).grown hgrow3 (by simp <;> omega) (by intro q hq; injection hq with hq; omega); have HO3 := Lib.hid hown3; have HB3 := Lib.hid hb3; clear hown3 hgrow3 hb3)
      go_ret
      exact ⟨v3, rfl, by unfold marks; rw [if_pos HM.out, HK.out, List.append_nil]; exact own_mono HO3.out (by omega), HB3.out⟩
    · have bm : (m != 0) = true := by simp [hm]
      have HM := Lib.hid hm
      clear hm
      go_enter Try.func14, Try.ntmps14
      go_wp2_with (first | (at_builtin; refine wpList_append_at rfl _ _ 28 rfl (w.heap.size + 1) 9 i0 (.string { data := #[] }) 1 16 Try.underlying28 hi hz0 hz1 hz2 rfl (by decide) _ 0 [] rfl (own_below (own_below (own_below (own_below (own_below (own_below (own_below (own_made (w.alloc _) _ (by simp) (Nat.le_refl _)) (below_alloc _ _)) (below_alloc _ _)) (below_alloc _ _)) (below_alloc _ _)) (below_alloc _ _)) (below_alloc _ _)) (below_alloc _ _)) (some ⟨_, 0, none⟩) 1 1 (sv [tWait]) rfl (fun h => nomatch h) rfl (At.alloc (At.alloc (At.alloc (At.alloc (At.alloc (At.alloc (at_new _ #[.string ⟨#[116, 45, 119, 97, 105, 116]⟩] 9 _ (by simp) _ rfl) _) _) _) _) _) _) (sv_one _) (by unfold maxLen; omega) (by omega) (by simp <;> omega) ?_; intro v3 w3 hown3 hgrow3a; have hgrow3 : World.grownBy _ w3 (some (w.heap.size + 1)) := hgrow3a; clear hgrow3a; have m3 : w3.cell? ⟨w.heap.size, 1, none⟩ = some (.int .i64 m) := hgrow3.cell (Lib.cell?_alloc_some _ (Lib.cell?_alloc_some _ (Lib.cell?_alloc_some _ (Lib.cell?_alloc_some _ (Lib.cell?_alloc_some _ (Lib.cell?_alloc_some _ (Lib.cell?_alloc_some _ (Lib.cell?_alloc_some _ (by simp))))))))) (by simp); have hb3 : Below w.heap.size w w3 := (below_more (below_more (below_more (below_more (below_more (below_more (below_more (below_more (below_alloc w _) _) _) _) _) _) _) _) _).grown hgrow3 (by simp <;> omega) (by intro q hq; injection hq with hq; omega); have HO3 := Lib.hid hown3; have HB3 := Lib.hid hb3; clear hown3 hgrow3 hb3) | (at_builtin; refine wpList_append_at rfl _ _ 28 rfl (w.heap.size + 1) 9 i0 (.string { data := #[] }) 1 16 Try.underlying28 hi hz0 hz1 hz2 rfl (by decide) _ _ _ rfl (own_below HO3.out (below_alloc _ _)) (some ⟨_, 0, none⟩) 1 1 (sv [tMv]) rfl (fun h => nomatch h) rfl (at_new _ #[.string ⟨#[116, 45, 109, 111, 118, 101]⟩] 9 _ (by simp) _ rfl) (sv_one _) (by unfold maxLen; omega) (by omega) (by have := HB3.out.size; simp <;> omega) ?_; intro v4 w4 hown4 hgrow4; have HO4 := Lib.hid hown4; have HG4 := Lib.hid hgrow4; clear hown4 hgrow4))
      go_ret
      exact ⟨v4, rfl, by unfold marks; rw [if_neg HM.out, HK.out]; exact own_mono HO4.out (by omega), (below_more HB3.out _).grown HG4.out (by have := HB3.out.size; simp <;> omega) (fun q hq => by have := own_from HO3.out q hq; omega)⟩
  · skip
    by_cases h2 : k = 2
    · subst h2
      have HK : Hid (kindM 2 = [tEF, tEA]) := kindM2
      by_cases hm : m = 0
      · have bm : (m != 0) = false := by simp [hm]
        have HM := Lib.hid hm
        clear hm
        go_enter Try.func14, Try.ntmps14
        go_wp2_with (at_builtin; refine wpList_append_at rfl _ _ 28 rfl (w.heap.size + 1) 9 i0 (.string { data := #[] }) 1 16 Try.underlying28 hi hz0 hz1 hz2 rfl (by decide) _ 0 [] rfl (own_below (own_below (own_below (own_below (own_below (own_below (own_below (own_made (w.alloc _) _ (by simp) (Nat.le_refl _)) (below_alloc _ _)) (below_alloc _ _)) (below_alloc _ _)) (below_alloc _ _)) (below_alloc _ _)) (below_alloc _ _)) (below_alloc _ _)) (some ⟨_, 0, none⟩) 2 2 (sv [tEF, tEA]) rfl (fun h => nomatch h) rfl (At.alloc (At.alloc (At.alloc (At.alloc (At.alloc (at_new _ #[.string ⟨#[116, 45, 101, 110, 116, 101, 114, 45, 102, 114, 111, 109]⟩, .string ⟨#[116, 45, 101, 110, 116, 101, 114, 45, 97, 99, 116, 105, 118, 101]⟩] 9 _ (by simp) _ rfl) _) _) _) _) _) (sv_one _) (by unfold maxLen; omega) (by omega) (by simp <;> omega) ?_; intro v3 w3 hown3 hgrow3a; have hgrow3 : World.grownBy _ w3 (some (w.heap.size + 1)) := hgrow3a; clear hgrow3a; have m3 : w3.cell? ⟨w.heap.size, 1, none⟩ = some (.int .i64 m) := hgrow3.cell (Lib.cell?_alloc_some _ (Lib.cell?_alloc_some _ (Lib.cell?_alloc_some _ (Lib.cell?_alloc_some _ (Lib.cell?_alloc_some _ (Lib.cell?_alloc_some _ (Lib.cell?_alloc_some _ (Lib.cell?_alloc_some _ (by simp))))))))) (by simp); have hb3 : Below w.heap.size w w3 := (below_more (below_more (below_more (below_more (below_more (below_more (below_more (below_more (below_alloc w _) _) _) _) _) _) _) _) _).grown hgrow3 (by simp <;> omega) (by intro q hq; injection hq with hq; omega); have HO3 := Lib.hid hown3; have HB3 := Lib.hid hb3; clear hown3 hgrow3 hb3)
        go_ret
        exact ⟨v3, rfl, by unfold marks; rw [if_pos HM.out, HK.out, List.append_nil]; exact own_mono HO3.out (by omega), HB3.out⟩
      · have bm : (m != 0) = true := by simp [hm]
        have HM := Lib.hid hm
        clear hm
        go_enter Try.func14, Try.ntmps14
        go_wp2_with (first | (at_builtin; refine wpList_append_at rfl _ _ 28 rfl (w.heap.size + 1) 9 i0 (.string { data := #[] }) 1 16 Try.underlying28 hi hz0 hz1 hz2 rfl (by decide) _ 0 [] rfl (own_below (own_below (own_below (own_below (own_below (own_below (own_below (own_made (w.alloc _) _ (by simp) (Nat.le_refl _)) (below_alloc _ _)) (below_alloc _ _)) (below_alloc _ _)) (below_alloc _ _)) (below_alloc _ _)) (below_alloc _ _)) (below_alloc _ _)) (some ⟨_, 0, none⟩) 2 2 (sv [tEF, tEA]) rfl (fun h => nomatch h) rfl (At.alloc (At.alloc (At.alloc (At.alloc (At.alloc (at_new _ #[.string ⟨#[116, 45, 101, 110, 116, 101, 114, 45, 102, 114, 111, 109]⟩, .string ⟨#[116, 45, 101, 110, 116, 101, 114, 45, 97, 99, 116, 105, 118, 101]⟩] 9 _ (by simp) _ rfl) _) _) _) _) _) (sv_one _) (by unfold maxLen; omega) (by omega) (by simp <;> omega) ?_; intro v3 w3 hown3 hgrow3a; have hgrow3 : World.grownBy _ w3 (some (w.heap.size + 1)) := hgrow3a; clear hgrow3a; have m3 : w3.cell? ⟨w.heap.size, 1, none⟩ = some (.int .i64 m) := hgrow3.cell (Lib.cell?_alloc_some _ (Lib.cell?_alloc_some _ (Lib.cell?_alloc_some _ (Lib.cell?_alloc_some _ (Lib.cell?_alloc_some _ (Lib.cell?_alloc_some _ (Lib.cell?_alloc_some _ (Lib.cell?_alloc_some _ (by simp))))))))) (by simp); have hb3 : Below w.heap.size w w3 := (below_more (below_more (below_more (below_more (below_more (below_more (below_more (below_more (below_alloc w _) _) _) _) _) _) _) _) _).grown hgrow3 (by simp <;> omega) (by intro q hq; injection hq with hq; omega); have HO3 := Lib.hid hown3; have HB3 := Lib.hid hb3; clear hown3 hgrow3 hb3) | (at_builtin; refine wpList_append_at rfl _ _ 28 rfl (w.heap.size + 1) 9 i0 (.string { data := #[] }) 1 16 Try.underlying28 hi hz0 hz1 hz2 rfl (by decide) _ _ _ rfl (own_below HO3.out (below_alloc _ _)) (some ⟨_, 0, none⟩) 1 1 (sv [tMv]) rfl (fun h => nomatch h) rfl (at_new _ #[.string ⟨#[116, 45, 109, 111, 118, 101]⟩] 9 _ (by simp) _ rfl) (sv_one _) (by unfold maxLen; omega) (by omega) (by have := HB3.out.size; simp <;> omega) ?_; intro v4 w4 hown4 hgrow4; have HO4 := Lib.hid hown4; have HG4 := Lib.hid hgrow4; clear hown4 hgrow4))
        go_ret
        exact ⟨v4, rfl, by unfold marks; rw [if_neg HM.out, HK.out]; exact own_mono HO4.out (by omega), (below_more HB3.out _).grown HG4.out (by have := HB3.out.size; simp <;> omega) (fun q hq => by have := own_from HO3.out q hq; omega)⟩
    · skip
      by_cases h3 : k = 3
      · subst h3
        have HK : Hid (kindM 3 = [tEA, tET]) := kindM3
        by_cases hm : m = 0
        · have bm : (m != 0) = false := by simp [hm]
          have HM := Lib.hid hm
          clear hm
          go_enter Try.func14, Try.ntmps14
          go_wp2_with (at_builtin; refine wpList_append_at rfl _ _ 28 rfl (w.heap.size + 1) 9 i0 (.string { data := #[] }) 1 16 Try.underlying28 hi hz0 hz1 hz2 rfl (by decide) _ 0 [] rfl (own_below (own_below (own_below (own_below (own_below (own_below (own_below (own_made (w.alloc _) _ (by simp) (Nat.le_refl _)) (below_alloc _ _)) (below_alloc _ _)) (below_alloc _ _)) (below_alloc _ _)) (below_alloc _ _)) (below_alloc _ _)) (below_alloc _ _)) (some ⟨_, 0, none⟩) 2 2 (sv [tEA, tET]) rfl (fun h => nomatch h) rfl (At.alloc (At.alloc (At.alloc (At.alloc (at_new _ #[.string ⟨#[116, 45, 101, 110, 116, 101, 114, 45, 97, 99, 116, 105, 118, 101]⟩, .string ⟨#[116, 45, 101, 110, 116, 101, 114, 45, 116, 111]⟩] 9 _ (by simp) _ rfl) _) _) _) _) (sv_one _) (by unfold maxLen; omega) (by omega) (by simp <;> omega) ?_; intro v3 w3 hown3 hgrow3a; have hgrow3 : World.grownBy _ w3 (some (w.heap.size + 1)) := hgrow3a; clear hgrow3a; have m3 : w3.cell? ⟨w.heap.size, 1, none⟩ = some (.int .i64 m) := hgrow3.cell (Lib.cell?_alloc_some _ (Lib.cell?_alloc_some _ (Lib.cell?_alloc_some _ (Lib.cell?_alloc_some _ (Lib.cell?_alloc_some _ (Lib.cell?_alloc_some _ (Lib.cell?_alloc_some _ (Lib.cell?_alloc_some _ (by simp))))))))) (by simp); have hb3 : Below w.heap.size w w3 := (below_more (below_more (below_more (below_more (below_more (below_more (below_more (below_more (below_alloc w _) _) _) _) _) _) _) _) _).grown hgrow3 (by simp <;> omega) (by intro q hq; injection hq with hq; omega); have HO3 := Lib.hid hown3; have HB3 := Lib.hid hb3; clear hown3 hgrow3 hb3)
          go_ret
          exact ⟨v3, rfl, by unfold marks; rw [if_pos HM.out, HK.out, List.append_nil]; exact own_mono HO3.out (by omega), HB3.out⟩
        · have bm : (m != 0) = true := by simp [hm]
          have HM := Lib.hid hm
          clear hm
          go_enter Try.func14, Try.ntmps14
          go_wp2_with (first | (at_builtin; refine wpList_append_at rfl _ _ 28 rfl (w.heap.size + 1) 9 i0 (.string { data := #[] }) 1 16 Try.underlying28 hi hz0 hz1 hz2 rfl (by decide) _ 0 [] rfl (own_below (own_below (own_below (own_below (own_below (own_below (own_below (own_made (w.alloc _) _ (by simp) (Nat.le_refl _)) (below_alloc _ _)) (below_alloc _ _)) (below_alloc _ _)) (below_alloc _ _)) (below_alloc _ _)) (below_alloc _ _)) (below_alloc _ _)) (some ⟨_, 0, none⟩) 2 2 (sv [tEA, tET]) rfl (fun h => nomatch h) rfl (At.alloc (At.alloc (At.alloc (At.alloc (at_new _ #[.string ⟨#[116, 45, 101, 110, 116, 101, 114, 45, 97, 99, 116, 105, 118, 101]⟩, .string ⟨#[116, 45, 101, 110, 116, 101, 114, 45, 116, 111]⟩] 9 _ (by simp) _ rfl) _) _) _) _) (sv_one _) (by unfold maxLen; omega) (by omega) (by simp <;> omega) ?_; intro v3 w3 hown3 hgrow3a; have hgrow3 : World.grownBy _ w3 (some (w.heap.size + 1)) := hgrow3a; clear hgrow3a; have m3 : w3.cell? ⟨w.heap.size, 1, none⟩ = some (.int .i64 m) := hgrow3.cell (Lib.cell?_alloc_some _ (Lib.cell?_alloc_some _ (Lib.cell?_alloc_some _ (Lib.cell?_alloc_some _ (Lib.cell?_alloc_some _ (Lib.cell?_alloc_some _ (Lib.cell?_alloc_some _ (Lib.cell?_alloc_some _ (by simp))))))))) (by simp); have hb3 : Below w.heap.size w w3 := (below_more (below_more (below_more (below_more (below_more (below_more (below_more (below_more (below_alloc w _) _) _) _) _) _) _) _) _).grown hgrow3 (by simp <;> omega) (by intro q hq; injection hq with hq; omega); have HO3 := Lib.hid hown3; have HB3 := Lib.hid hb3; clear hown3 hgrow3 hb3) | (at_builtin; refine wpList_append_at rfl _ _ 28 rfl (w.heap.size + 1) 9 i0 (.string { data := #[] }) 1 16 Try.underlying28 hi hz0 hz1 hz2 rfl (by decide) _ _ _ rfl (own_below HO3.out (below_alloc _ _)) (some ⟨_, 0, none⟩) 1 1 (sv [tMv]) rfl (fun h => nomatch h) rfl (at_new _ #[.string ⟨#[116, 45, 109, 111, 118, 101]⟩] 9 _ (by simp) _ rfl) (sv_one _) (by unfold maxLen; omega) (by omega) (by have := HB3.out.size; simp <;> omega) ?_; intro v4 w4 hown4 hgrow4; have HO4 := Lib.hid hown4; have HG4 := Lib.hid hgrow4; clear hown4 hgrow4))
          go_ret
          exact ⟨v4, rfl, by unfold marks; rw [if_neg HM.out, HK.out]; exact own_mono HO4.out (by omega), (below_more HB3.out _).grown HG4.out (by have := HB3.out.size; simp <;> omega) (fun q hq => by have := own_from HO3.out q hq; omega)⟩
      · skip
        by_cases h4 : k = 4
        · subst h4
          have HK : Hid (kindM 4 = [tHold]) := kindM4
          by_cases hm : m = 0
          · have bm : (m != 0) = false := by simp [hm]
            have HM := Lib.hid hm
            clear hm
            go_enter Try.func14, Try.ntmps14
            go_wp2_with (at_builtin; refine wpList_append_at rfl _ _ 28 rfl (w.heap.size + 1) 9 i0 (.string { data := #[] }) 1 16 Try.underlying28 hi hz0 hz1 hz2 rfl (by decide) _ 0 [] rfl (own_below (own_below (own_below (own_below (own_below (own_below (own_below (own_made (w.alloc _) _ (by simp) (Nat.le_refl _)) (below_alloc _ _)) (below_alloc _ _)) (below_alloc _ _)) (below_alloc _ _)) (below_alloc _ _)) (below_alloc _ _)) (below_alloc _ _)) (some ⟨_, 0, none⟩) 1 1 (sv [tHold]) rfl (fun h => nomatch h) rfl (At.alloc (At.alloc (At.alloc (at_new _ #[.string ⟨#[116, 45, 104, 111, 108, 100]⟩] 9 _ (by simp) _ rfl) _) _) _) (sv_one _) (by unfold maxLen; omega) (by omega) (by simp <;> omega) ?_; intro v3 w3 hown3 hgrow3a; have hgrow3 : World.grownBy _ w3 (some (w.heap.size + 1)) := hgrow3a; clear hgrow3a; have m3 : w3.cell? ⟨w.heap.size, 1, none⟩ = some (.int .i64 m) := hgrow3.cell (Lib.cell?_alloc_some _ (Lib.cell?_alloc_some _ (Lib.cell?_alloc_some _ (Lib.cell?_alloc_some _ (Lib.cell?_alloc_some _ (Lib.cell?_alloc_some _ (Lib.cell?_alloc_some _ (Lib.cell?_alloc_some _ (by simp))))))))) (by simp); have hb3 : Below w.heap.size w w3 := (below_more (below_more (below_more (below_more (below_more (below_more (below_more (below_more (below_alloc w _) _) _) _) _) _) _) _) _).grown hgrow3 (by simp <;> omega) (by intro q hq; injection hq with hq; omega); have HO3 := Lib.hid hown3; have HB3 := Lib.hid hb3; clear hown3 hgrow3 hb3)
            go_ret
            exact ⟨v3, rfl, by unfold marks; rw [if_pos HM.out, HK.out, List.append_nil]; exact own_mono HO3.out (by omega), HB3.out⟩
          · have bm : (m != 0) = true := by simp [hm]
            have HM := Lib.hid hm
            clear hm
            go_enter Try.func14, Try.ntmps14
            go_wp2_with (first | (at_builtin; refine wpList_append_at rfl _ _ 28 rfl (w.heap.size + 1) 9 i0 (.string { data := #[] }) 1 16 Try.underlying28 hi hz0 hz1 hz2 rfl (by decide) _ 0 [] rfl (own_below (own_below (own_below (own_below (own_below (own_below (own_below (own_made (w.alloc _) _ (by simp) (Nat.le_refl _)) (below_alloc _ _)) (below_alloc _ _)) (below_alloc _ _)) (below_alloc _ _)) (below_alloc _ _)) (below_alloc _ _)) (below_alloc _ _)) (some ⟨_, 0, none⟩) 1 1 (sv [tHold]) rfl (fun h => nomatch h) rfl (At.alloc (At.alloc (At.alloc (at_new _ #[.string ⟨#[116, 45, 104, 111, 108, 100]⟩] 9 _ (by simp) _ rfl) _) _) _) (sv_one _) (by unfold maxLen; omega) (by omega) (by simp <;> omega) ?_; intro v3 w3 hown3 hgrow3a; have hgrow3 : World.grownBy _ w3 (some (w.heap.size + 1)) := hgrow3a; clear hgrow3a; have m3 : w3.cell? ⟨w.heap.size, 1, none⟩ = some (.int .i64 m) := hgrow3.cell (Lib.cell?_alloc_some _ (Lib.cell?_alloc_some _ (Lib.cell?_alloc_some _ (Lib.cell?_alloc_some _ (Lib.cell?_alloc_some _ (Lib.cell?_alloc_some _ (Lib.cell?_alloc_some _ (Lib.cell?_alloc_some _ (by simp))))))))) (by simp); have hb3 : Below w.heap.size w w3 := (below_more (below_more (below_more (below_more (below_more (below_more (below_more (below_more (below_alloc w _) _) _) _) _) _) _) _) _).grown hgrow3 (by simp <;> omega) (by intro q hq; injection hq with hq; omega); have HO3 := Lib.hid hown3; have HB3 := Lib.hid hb3; clear hown3 hgrow3 hb3) | (at_builtin; refine wpList_append_at rfl _ _ 28 rfl (w.heap.size + 1) 9 i0 (.string { data := #[] }) 1 16 Try.underlying28 hi hz0 hz1 hz2 rfl (by decide) _ _ _ rfl (own_below HO3.out (below_alloc _ _)) (some ⟨_, 0, none⟩) 1 1 (sv [tMv]) rfl (fun h => nomatch h) rfl (at_new _ #[.string ⟨#[116, 45, 109, 111, 118, 101]⟩] 9 _ (by simp) _ rfl) (sv_one _) (by unfold maxLen; omega) (by omega) (by have := HB3.out.size; simp <;> omega) ?_; intro v4 w4 hown4 hgrow4; have HO4 := Lib.hid hown4; have HG4 := Lib.hid hgrow4; clear hown4 hgrow4))
            go_ret
            exact ⟨v4, rfl, by unfold marks; rw [if_neg HM.out, HK.out]; exact own_mono HO4.out (by omega), (below_more HB3.out _).grown HG4.out (by have := HB3.out.size; simp <;> omega) (fun q hq => by have := own_from HO3.out q hq; omega)⟩
        · skip
          by_cases h5 : k = 5
          · subst h5
            have HK : Hid (kindM 5 = [tLF, tLA]) := kindM5
            by_cases hm : m = 0
            · have bm : (m != 0) = false := by simp [hm]
              have HM := Lib.hid hm
              clear hm
              go_enter Try.func14, Try.ntmps14
              go_wp2_with (at_builtin; refine wpList_append_at rfl _ _ 28 rfl (w.heap.size + 1) 9 i0 (.string { data := #[] }) 1 16 Try.underlying28 hi hz0 hz1 hz2 rfl (by decide) _ 0 [] rfl (own_below (own_below (own_below (own_below (own_below (own_below (own_below (own_made (w.alloc _) _ (by simp) (Nat.le_refl _)) (below_alloc _ _)) (below_alloc _ _)) (below_alloc _ _)) (below_alloc _ _)) (below_alloc _ _)) (below_alloc _ _)) (below_alloc _ _)) (some ⟨_, 0, none⟩) 2 2 (sv [tLF, tLA]) rfl (fun h => nomatch h) rfl (At.alloc (At.alloc (at_new _ #[.string ⟨#[116, 45, 108, 101, 97, 118, 101, 45, 102, 114, 111, 109]⟩, .string ⟨#[116, 45, 108, 101, 97, 118, 101, 45, 97, 99, 116, 105, 118, 101]⟩] 9 _ (by simp) _ rfl) _) _) (sv_one _) (by unfold maxLen; omega) (by omega) (by simp <;> omega) ?_; intro v3 w3 hown3 hgrow3a; have hgrow3 : World.grownBy _ w3 (some (w.heap.size + 1)) := hgrow3a; clear hgrow3a; have m3 : w3.cell? ⟨w.heap.size, 1, none⟩ = some (.int .i64 m) := hgrow3.cell (Lib.cell?_alloc_some _ (Lib.cell?_alloc_some _ (Lib.cell?_alloc_some _ (Lib.cell?_alloc_some _ (Lib.cell?_alloc_some _ (Lib.cell?_alloc_some _ (Lib.cell?_alloc_some _ (Lib.cell?_alloc_some _ (by simp))))))))) (by simp); have hb3 : Below w.heap.size w w3 := (below_more (below_more (below_more (below_more (below_more (below_more (below_more (below_more (below_alloc w _) _) _) _) _) _) _) _) _).grown hgrow3 (by simp <;> omega) (by intro q hq; injection hq with hq; omega); have HO3 := Lib.hid hown3; have HB3 := Lib.hid hb3; clear hown3 hgrow3 hb3)
              go_ret
              exact ⟨v3, rfl, by unfold marks; rw [if_pos HM.out, HK.out, List.append_nil]; exact own_mono HO3.out (by omega), HB3.out⟩
            · have bm : (m != 0) = true := by simp [hm]
              have HM := Lib.hid hm
              clear hm
              go_enter Try.func14, Try.ntmps14
              go_wp2_with (first | (at_builtin; refine wpList_append_at rfl _ _ 28 rfl (w.heap.size + 1) 9 i0 (.string { data := #[] }) 1 16 Try.underlying28 hi hz0 hz1 hz2 rfl (by decide) _ 0 [] rfl (own_below (own_below (own_below (own_below (own_below (own_below (own_below (own_made (w.alloc _) _ (by simp) (Nat.le_refl _)) (below_alloc _ _)) (below_alloc _ _)) (below_alloc _ _)) (below_alloc _ _)) (below_alloc _ _)) (below_alloc _ _)) (below_alloc _ _)) (some ⟨_, 0, none⟩) 2 2 (sv [tLF, tLA]) rfl (fun h => nomatch h) rfl (At.alloc (At.alloc (at_new _ #[.string ⟨#[116, 45, 108, 101, 97, 118, 101, 45, 102, 114, 111, 109]⟩, .string ⟨#[116, 45, 108, 101, 97, 118, 101, 45, 97, 99, 116, 105, 118, 101]⟩] 9 _ (by simp) _ rfl) _) _) (sv_one _) (by unfold maxLen; omega) (by omega) (by simp <;> omega) ?_; intro v3 w3 hown3 hgrow3a; have hgrow3 : World.grownBy _ w3 (some (w.heap.size + 1)) := hgrow3a; clear hgrow3a; have m3 : w3.cell? ⟨w.heap.size, 1, none⟩ = some (.int .i64 m) := hgrow3.cell (Lib.cell?_alloc_some _ (Lib.cell?_alloc_some _ (Lib.cell?_alloc_some _ (Lib.cell?_alloc_some _ (Lib.cell?_alloc_some _ (Lib.cell?_alloc_some _ (Lib.cell?_alloc_some _ (Lib.cell?_alloc_some _ (by simp))))))))) (by simp); have hb3 : Below w.heap.size w w3 := (below_more (below_more (below_more (below_more (below_more (below_more (below_more (below_more (below_alloc w _) _) _) _) _) _) _) _) _).grown hgrow3 (by simp <;> omega) (by intro q hq; injection hq with hq; omega); have HO3 := Lib.hid hown3; have HB3 := Lib.hid hb3; clear hown3 hgrow3 hb3) | (at_builtin; refine wpList_append_at rfl _ _ 28 rfl (w.heap.size + 1) 9 i0 (.string { data := #[] }) 1 16 Try.underlying28 hi hz0 hz1 hz2 rfl (by decide) _ _ _ rfl (own_below HO3.out (below_alloc _ _)) (some ⟨_, 0, none⟩) 1 1 (sv [tMv]) rfl (fun h => nomatch h) rfl (at_new _ #[.string ⟨#[116, 45, 109, 111, 118, 101]⟩] 9 _ (by simp) _ rfl) (sv_one _) (by unfold maxLen; omega) (by omega) (by have := HB3.out.size; simp <;> omega) ?_; intro v4 w4 hown4 hgrow4; have HO4 := Lib.hid hown4; have HG4 := Lib.hid hgrow4; clear hown4 hgrow4))
              go_ret
              exact ⟨v4, rfl, by unfold marks; rw [if_neg HM.out, HK.out]; exact own_mono HO4.out (by omega), (below_more HB3.out _).grown HG4.out (by have := HB3.out.size; simp <;> omega) (fun q hq => by have := own_from HO3.out q hq; omega)⟩
          · skip
            by_cases h6 : k = 6
            · subst h6
              have HK : Hid (kindM 6 = [tLA, tLT]) := kindM6
              by_cases hm : m = 0
              · have bm : (m != 0) = false := by simp [hm]
                have HM := Lib.hid hm
                clear hm
                go_enter Try.func14, Try.ntmps14
                go_wp2_with (at_builtin; refine wpList_append_at rfl _ _ 28 rfl (w.heap.size + 1) 9 i0 (.string { data := #[] }) 1 16 Try.underlying28 hi hz0 hz1 hz2 rfl (by decide) _ 0 [] rfl (own_below (own_below (own_below (own_below (own_below (own_below (own_below (own_made (w.alloc _) _ (by simp) (Nat.le_refl _)) (below_alloc _ _)) (below_alloc _ _)) (below_alloc _ _)) (below_alloc _ _)) (below_alloc _ _)) (below_alloc _ _)) (below_alloc _ _)) (some ⟨_, 0, none⟩) 2 2 (sv [tLA, tLT]) rfl (fun h => nomatch h) rfl (At.alloc (at_new _ #[.string ⟨#[116, 45, 108, 101, 97, 118, 101, 45, 97, 99, 116, 105, 118, 101]⟩, .string ⟨#[116, 45, 108, 101, 97, 118, 101, 45, 116, 111]⟩] 9 _ (by simp) _ rfl) _) (sv_one _) (by unfold maxLen; omega) (by omega) (by simp <;> omega) ?_; intro v3 w3 hown3 hgrow3a; have hgrow3 : World.grownBy _ w3 (some (w.heap.size + 1)) := hgrow3a; clear hgrow3a; have m3 : w3.cell? ⟨w.heap.size, 1, none⟩ = some (.int .i64 m) := hgrow3.cell (Lib.cell?_alloc_some _ (Lib.cell?_alloc_some _ (Lib.cell?_alloc_some _ (Lib.cell?_alloc_some _ (Lib.cell?_alloc_some _ (Lib.cell?_alloc_some _ (Lib.cell?_alloc_some _ (Lib.cell?_alloc_some _ (by simp))))))))) (by simp); have hb3 : Below w.heap.size w w3 := (below_more (below_more (below_more (below_more (below_more (below_more (below_more (below_more (below_alloc w _) _) _) _) _) _) _) _) _).grown hgrow3 (by simp <;> omega) (by intro q hq; injection hq with hq; omega); have HO3 := Lib.hid hown3; have HB3 := Lib.hid hb3; clear hown3 hgrow3 hb3)
                go_ret
                exact ⟨v3, rfl, by unfold marks; rw [if_pos HM.out, HK.out, List.append_nil]; exact own_mono HO3.out (by omega), HB3.out⟩
              · have bm : (m != 0) = true := by simp [hm]
                have HM := Lib.hid hm
                clear hm
                go_enter Try.func14, Try.ntmps14
                go_wp2_with (first | (at_builtin; refine wpList_append_at rfl _ _ 28 rfl (w.heap.size + 1) 9 i0 (.string { data := #[] }) 1 16 Try.underlying28 hi hz0 hz1 hz2 rfl (by decide) _ 0 [] rfl (own_below (own_below (own_below (own_below (own_below (own_below (own_below (own_made (w.alloc _) _ (by simp) (Nat.le_refl _)) (below_alloc _ _)) (below_alloc _ _)) (below_alloc _ _)) (below_alloc _ _)) (below_alloc _ _)) (below_alloc _ _)) (below_alloc _ _)) (some ⟨_, 0, none⟩) 2 2 (sv [tLA, tLT]) rfl (fun h => nomatch h) rfl (At.alloc (at_new _ #[.string ⟨#[116, 45, 108, 101, 97, 118, 101, 45, 97, 99, 116, 105, 118, 101]⟩, .string ⟨#[116, 45, 108, 101, 97, 118, 101, 45, 116, 111]⟩] 9 _ (by simp) _ rfl) _) (sv_one _) (by unfold maxLen; omega) (by omega) (by simp <;> omega) ?_; intro v3 w3 hown3 hgrow3a; have hgrow3 : World.grownBy _ w3 (some (w.heap.size + 1)) := hgrow3a; clear hgrow3a; have m3 : w3.cell? ⟨w.heap.size, 1, none⟩ = some (.int .i64 m) := hgrow3.cell (Lib.cell?_alloc_some _ (Lib.cell?_alloc_some _ (Lib.cell?_alloc_some _ (Lib.cell?_alloc_some _ (Lib.cell?_alloc_some _ (Lib.cell?_alloc_some _ (Lib.cell?_alloc_some _ (Lib.cell?_alloc_some _ (by simp))))))))) (by simp); have hb3 : Below w.heap.size w w3 := (below_more (below_more (below_more (below_more (below_more (below_more (below_more (below_more (below_alloc w _) _) _) _) _) _) _) _) _).grown hgrow3 (by simp <;> omega) (by intro q hq; injection hq with hq; omega); have HO3 := Lib.hid hown3; have HB3 := Lib.hid hb3; clear hown3 hgrow3 hb3) | (at_builtin; refine wpList_append_at rfl _ _ 28 rfl (w.heap.size + 1) 9 i0 (.string { data := #[] }) 1 16 Try.underlying28 hi hz0 hz1 hz2 rfl (by decide) _ _ _ rfl (own_below HO3.out (below_alloc _ _)) (some ⟨_, 0, none⟩) 1 1 (sv [tMv]) rfl (fun h => nomatch h) rfl (at_new _ #[.string ⟨#[116, 45, 109, 111, 118, 101]⟩] 9 _ (by simp) _ rfl) (sv_one _) (by unfold maxLen; omega) (by omega) (by have := HB3.out.size; simp <;> omega) ?_; intro v4 w4 hown4 hgrow4; have HO4 := Lib.hid hown4; have HG4 := Lib.hid hgrow4; clear hown4 hgrow4))
                go_ret
                exact ⟨v4, rfl, by unfold marks; rw [if_neg HM.out, HK.out]; exact own_mono HO4.out (by omega), (below_more HB3.out _).grown HG4.out (by have := HB3.out.size; simp <;> omega) (fun q hq => by have := own_from HO3.out q hq; omega)⟩
            · skip
              have HK : Hid (kindM k = []) := kindM_no (by omega)
              by_cases hge : k ≥ 1
              · have g1 : decide (k ≥ 1) = true := by simpa using hge
                have g6 : decide (k ≤ 6) = false := by simp; omega
                clear h1 h2 h3 h4 h5 h6 hge
                by_cases hm : m = 0
                · have bm : (m != 0) = false := by simp [hm]
                  have HM := Lib.hid hm
                  clear hm
                  go_enter Try.func14, Try.ntmps14
                  go_wp2
                  go_ret
                  exact ⟨_, rfl, by unfold marks; rw [if_pos HM.out, HK.out]; exact own_mono (own_made (base := w.heap.size) (w.alloc _) (w.heap.size + 1) (by simp) (by omega)) (Nat.le_refl _), below_more (below_alloc w _) _⟩
                · have bm : (m != 0) = true := by simp [hm]
                  have HM := Lib.hid hm
                  clear hm
                  go_enter Try.func14, Try.ntmps14
                  go_wp2_with (at_builtin; refine wpList_append_at rfl _ _ 28 rfl (w.heap.size + 1) 9 i0 (.string { data := #[] }) 1 16 Try.underlying28 hi hz0 hz1 hz2 rfl (by decide) _ 0 [] rfl (own_below (own_made (w.alloc _) _ (by simp) (Nat.le_refl _)) (below_alloc _ _)) (some ⟨_, 0, none⟩) 1 1 (sv [tMv]) rfl (fun h => nomatch h) rfl (at_new _ #[.string ⟨#[116, 45, 109, 111, 118, 101]⟩] 9 _ (by simp) _ rfl) (sv_one _) (by unfold maxLen; omega) (by omega) (by simp <;> omega) ?_; intro v4 w4 hown4 hgrow4a; have hgrow4 : World.grownBy _ w4 (some (w.heap.size + 1)) := hgrow4a; clear hgrow4a; have hb4 : Below w.heap.size w w4 := (below_more (below_more (below_alloc w _) _) _).grown hgrow4 (by simp <;> omega) (by intro q hq; injection hq with hq; omega); have HO4 := Lib.hid hown4; have HB4 := Lib.hid hb4; clear hown4 hgrow4 hb4)
                  go_ret
                  exact ⟨v4, rfl, by unfold marks; rw [if_neg HM.out, HK.out]; exact own_mono HO4.out (by omega), HB4.out⟩
              · have g1 : decide (k ≥ 1) = false := by simpa using hge
                clear h1 h2 h3 h4 h5 h6 hge
                by_cases hm : m = 0
                · have bm : (m != 0) = false := by simp [hm]
                  have HM := Lib.hid hm
                  clear hm
                  go_enter Try.func14, Try.ntmps14
                  go_wp2
                  go_ret
                  exact ⟨_, rfl, by unfold marks; rw [if_pos HM.out, HK.out]; exact own_mono (own_made (base := w.heap.size) (w.alloc _) (w.heap.size + 1) (by simp) (by omega)) (Nat.le_refl _), below_more (below_alloc w _) _⟩
                · have bm : (m != 0) = true := by simp [hm]
                  have HM := Lib.hid hm
                  clear hm
                  go_enter Try.func14, Try.ntmps14
                  go_wp2_with (at_builtin; refine wpList_append_at rfl _ _ 28 rfl (w.heap.size + 1) 9 i0 (.string { data := #[] }) 1 16 Try.underlying28 hi hz0 hz1 hz2 rfl (by decide) _ 0 [] rfl (own_below (own_made (w.alloc _) _ (by simp) (Nat.le_refl _)) (below_alloc _ _)) (some ⟨_, 0, none⟩) 1 1 (sv [tMv]) rfl (fun h => nomatch h) rfl (at_new _ #[.string ⟨#[116, 45, 109, 111, 118, 101]⟩] 9 _ (by simp) _ rfl) (sv_one _) (by unfold maxLen; omega) (by omega) (by simp <;> omega) ?_; intro v4 w4 hown4 hgrow4a; have hgrow4 : World.grownBy _ w4 (some (w.heap.size + 1)) := hgrow4a; clear hgrow4a; have hb4 : Below w.heap.size w w4 := (below_more (below_more (below_alloc w _) _) _).grown hgrow4 (by simp <;> omega) (by intro q hq; injection hq with hq; omega); have HO4 := Lib.hid hown4; have HB4 := Lib.hid hb4; clear hown4 hgrow4 hb4)
                  go_ret
                  exact ⟨v4, rfl, by unfold marks; rw [if_neg HM.out, HK.out]; exact own_mono HO4.out (by omega), HB4.out⟩
end Ds
end Go.Proofs.Ytcboeehmhpkodaa
