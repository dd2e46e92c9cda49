/- Contracts of what props hands to the library's sort, in the sort's words: what is laid is told. -/
import Derived.Test.YtcboeehmhpkodaaPrS0
import Derived.Test.YtcboeehmhpkodaaPrW1
import Derived.Test.YtcboeehmhpkodaaShelf
import Derived.Shelf.SlSortCmp.QuietGrown
namespace Go.Proofs.Ytcboeehmhpkodaa
open Go.RowKit Go.Sort M
def encP (p : Par) : List Value := [.string p.1, .int .i64 p.2]
theorem encP_len (p : Par) : (encP p).length = 2 := rfl
theorem encP_one (p : Par) : ∀ v ∈ encP p, v.oneCell' = true := by
  intro v hv
  simp [encP] at hv
  rcases hv with rfl | rfl <;> rfl
theorem pv_flat (l : List Par) : pv l = l.flatMap encP := rfl
theorem compare_g (s t : ByteArray) (w : World) : Calls Try.prog 47 #[.string s, .string t] w fun e w' => e = .returned (.int .i64 (St.cmpN s t)) ∧ ∃ q os', w' = grow (w.drewN q) os' :=
  (Try.strings_Compare s t w).mono fun _ _ ⟨he, hw⟩ => ⟨he, 0, #[], by rw [hw, grow_empty]; rfl⟩
theorem of1_g (s : ByteArray) (z : Int) (w : World) :
    Calls Try.prog 38 #[.agg #[.string s, .int .i64 z]] w fun e w' => e = .returned (.string s) ∧ ∃ q os', w' = grow (w.drewN q) os' := by
  go_enter Try.func38, Try.ntmps38
  go_wp2
  go_ret
  exact ⟨rfl, 0, _, alloc_eq_grow _ _⟩
set_option maxHeartbeats 4000000 in
set_option maxRecDepth 100000 in
theorem latest1_g (s t : ByteArray) (y z : Int) (B : Nat) (w : World) (hB : w.cell? ⟨B, 0, none⟩ = some (.func (.func 38) #[] #[])) :
    Calls Try.prog 50 #[.agg #[.string s, .int .i64 y], .agg #[.string t, .int .i64 z], .pointer (some ⟨B, 0, none⟩)] w fun e w' => e = .returned (.int .i64 (St.cmpN s t)) ∧ ∃ q os', w' = grow (w.drewN q) os' := by
  have mixed : Try.prog.follows .mixedOrders = true := by kernel_rfl
  have hlt : B < w.heap.size := World.block_lt_of_cell? w _ hB
  go_enter Try.func50, Try.ntmps50
  go_wp2_with fail
  obtain ⟨W, hW⟩ : ∃ W, W = (w.alloc (.cells #[.string s, .int .i64 y] 56)).alloc (.cells #[.string t, .int .i64 z] 56) := ⟨_, rfl⟩
  have HWG := Lib.hid (show W = grow w (#[.cells #[.string s, .int .i64 y] 56] ++ #[.cells #[.string t, .int .i64 z] 56]) by rw [hW, alloc_eq_grow, alloc_eq_grow, grow_grow])
  have hs : W.heap.size = w.heap.size + 2 := by rw [hW]; simp
  have f0 : ∀ n os, (grow (W.drewN n) os).cell? ⟨B, 0, none⟩ = some (.func (.func 38) #[] #[]) := cell_grown (by show B < _; omega) (by rw [hW]; exact Lib.cell?_alloc_some _ (Lib.cell?_alloc_some _ hB))
  have f1 : ∀ n os, (grow (W.drewN n) os).cell? ⟨w.heap.size, 0, none⟩ = some (.string s) := cell_grown (by show w.heap.size < _; omega) (by rw [hW]; simp)
  have f2 : ∀ n os, (grow (W.drewN n) os).cell? ⟨w.heap.size, 1, none⟩ = some (.int .i64 y) := cell_grown (by show w.heap.size < _; omega) (by rw [hW]; simp)
  have f3 : ∀ n os, (grow (W.drewN n) os).cell? ⟨w.heap.size + 1, 0, none⟩ = some (.string t) := cell_grown (by show w.heap.size + 1 < _; omega) (by rw [hW]; simp)
  have f4 : ∀ n os, (grow (W.drewN n) os).cell? ⟨w.heap.size + 1, 1, none⟩ = some (.int .i64 z) := cell_grown (by show w.heap.size + 1 < _; omega) (by rw [hW]; simp)
  rw [← hW]
  clear hW hs hB hlt
  generalize w.heap.size = g at f1 f2 f3 f4
  go_quiet_grown (first | (go_at_call 38; refine Calls.grown_of (of1_g _ _ _)) | (go_at_call 47; refine Calls.grown_of (compare_g _ _ _)))
  go_wp2
  go_ret
  exact ⟨rfl, nq, _, by rw [HWG.out]; exact grow_grow (w.drewN nq) _ osq⟩
/-- what the sort asks of the comparison. -/
theorem cmp_lays (B blk size : Nat) (w : World) (hB : w.cell? ⟨B, 0, none⟩ = some (.func (.func 38) #[] #[])) (hne : B ≠ blk) :
    CmpLays Try.prog 50 #[.pointer (some ⟨B, 0, none⟩)] encP 2 St.cfP blk 0 size w := fun m os dk _ x y => by
  have hlt : B < w.heap.size := World.block_lt_of_cell? w _ hB
  refine latest1_g x.1 y.1 x.2 y.2 B _ ?_
  unfold sortWorldK
  rw [cell?_grow _ _ _ (by rw [size_putRowK]; exact hlt), cell?_putRowK_other encP 2 _ blk 0 dk _ (by exact hne)]
  exact hB
set_option maxHeartbeats 2000000 in
set_option maxRecDepth 100000 in
theorem cloneP_any (A : Option Addr) (n c : Nat) (l : List Par) (w : World) (hn : n = l.length) (hb : n ≤ 1000000000000) (hA0 : A = none → n = 0 ∧ c = 0) (ha : At w A (pv l)) :
    Calls Try.prog 48 #[.slice A n c] w fun e w' => ∃ v, e = .returned v ∧ w'.ownsRow w.heap.size 56 2 v n (pv l) ∧ Below w.heap.size w w' := by
  have hl := pv_len l
  rw [← hn] at hl
  clear hn
  have HL := Lib.hid hl
  have HA := Lib.hid ha
  clear hl ha
  obtain ⟨i0, hi, hz0, hz1, hz2⟩ := info_parts infoPPar
  have q22 : ∀ (w : World) (a : Option Addr) (n c n' c' : Nat), (binOp .eql 33 (.slice a n c) (.slice none n' c')).run Try.prog w = .ok (.bool a.isNone) w := fun w a n c n' c' => Lib.run_eql_slice_nil w _ _ a n c n' c' Try.underlying33
  cases A with
  | none =>
    obtain ⟨rfl, rfl⟩ := hA0 rfl
    go_enter Try.func48, Try.ntmps48
    go_wp2
    go_ret
    refine ⟨_, rfl, ?_, Below.refl _ _⟩
    have h0 : pv l = [] := List.eq_nil_of_length_eq_zero (by simpa using HL.out)
    rw [h0]
    exact World.ownsRow_nil _ _ _ _
  | some a =>
    go_enter Try.func48, Try.ntmps48
    go_wp2_with (at_builtin; refine wpList_append_at rfl _ _ 33 rfl w.heap.size 56 i0 _ 2 24 Try.underlying33 hi hz0 hz1 hz2 rfl (by decide) _ 0 [] rfl (own_made w _ rfl (Nat.le_refl _)) (some a) n c (pv l) rfl (fun h => nomatch h) HL.out (HA.out.alloc _) (pv_one l) ?_ ?_ ?_ ?_)
    · unfold maxLen; omega
    · omega
    · simp
    · intro v w1 hown hgrow
      go_wp2
      go_ret
      refine ⟨v, rfl, by simpa using hown, ?_⟩
      exact ((Below.refl _ w).alloc (Nat.le_refl _) _).grown hgrow (by simp) (by intro k hk; simp [Value.ownBlock] at hk; omega)
end Go.Proofs.Ytcboeehmhpkodaa
