/- trail: a Log over a Dom, and what it notes. -/
import Derived.Test.YtdhkcnncfcahoaaAr6
import Derived.Test.YtdhkcnncfcahoaaAppAt
import Derived.Deep.RegionLaw
namespace Go.Proofs.Ytdhkcnncfcahoaa
open Go.RowKit
abbrev OpP := Int × Int × Int × Int × ByteArray × ByteArray
def encO (o : OpP) : List Value := [.int .i64 o.1, .int .i64 o.2.1, .int .i64 o.2.2.1, .int .i64 o.2.2.2.1, .string o.2.2.2.2.1, .string o.2.2.2.2.2]
def ov (l : List OpP) : List Value := l.flatMap encO
theorem ov_app (a b : List OpP) : ov (a ++ b) = ov a ++ ov b := by simp [ov]
theorem ov_one (l : List OpP) : ∀ u ∈ ov l, u.oneCell' = true := by
  intro u hu
  simp only [ov, List.mem_flatMap] at hu
  obtain ⟨s, _, h⟩ := hu
  simp [encO] at h
  rcases h with rfl | rfl | rfl | rfl | rfl | rfl <;> rfl
theorem ov_len (l : List OpP) : (ov l).length = l.length * 6 := by
  induction l with
  | nil => rfl
  | cons a l ih => simp [ov, encO] at ih ⊢; omega
theorem infoOp : (Try.prog.info? 25).map (fun i => (i.zero, i.size, i.bytes)) = some (some (.agg #[.int .i64 0, .int .i64 0, .int .i64 0, .int .i64 0, .string { data := #[] }, .string { data := #[] }]), 6, 64) := by kernel_rfl
theorem own_not {w : World} {base : Nat} {e : TypeId} {size n g : Nat} {v : Value} {xs : List Value} {cs : Array Value} {t : TypeId} {fr : Nat × Nat} (h : w.ownsRow base e size v n xs) (hg : w.heap[g]? = some (.cells cs t fr)) (hne : t ≠ e) : some g ≠ v.ownBlock := by
  intro he
  rcases h.2 with ⟨hv, _⟩ | ⟨g', c, cur, hv, _, hh, _⟩
  · rw [hv] at he; simp [Value.ownBlock] at he
  · rw [hv] at he
    simp only [Value.ownBlock, Option.some.injEq] at he
    subst he
    rw [hg] at hh
    injection hh with hh
    injection hh with _ h2 _
    exact hne h2
theorem own_set {w : World} {base : Nat} {e : TypeId} {size n g : Nat} {v : Value} {xs : List Value} (h : w.ownsRow base e size v n xs) (hne : some g ≠ v.ownBlock) (i : Nat) (u : Value) : (w.setCell ⟨g, i, none⟩ u).ownsRow base e size v n xs := by
  rcases h with ⟨h1, h2 | ⟨g', c, cur, hv, h3, hh, h4⟩⟩
  · exact ⟨h1, .inl h2⟩
  · refine ⟨h1, .inr ⟨g', c, cur, hv, h3, (set_other (fun e => hne ?_) i u).trans hh, h4⟩⟩
    rw [hv, ← e]
    rfl
structure LogIs (w : World) (lb b base : Nat) (v : Value) (l : List OpP) : Prop where
  cells : w.heap[lb]? = some (.cells #[.pointer (some ⟨b, 0, none⟩), v] 33 (0, 0))
  own : w.ownsRow base 25 6 v l.length (ov l)
theorem LogIs.c0 {w : World} {lb b base : Nat} {v : Value} {l : List OpP} (h : LogIs w lb b base v l) : w.cell? ⟨lb, 0, none⟩ = some (.pointer (some ⟨b, 0, none⟩)) := by rw [cell_of_row w lb 0 _ _ (0, 0) h.cells]; rfl
theorem LogIs.c1 {w : World} {lb b base : Nat} {v : Value} {l : List OpP} (h : LogIs w lb b base v l) : w.cell? ⟨lb, 1, none⟩ = some v := by rw [cell_of_row w lb 1 _ _ (0, 0) h.cells]; rfl
theorem LogIs.lt {w : World} {lb b base : Nat} {v : Value} {l : List OpP} (h : LogIs w lb b base v l) : lb < w.heap.size := (Array.getElem?_eq_some_iff.1 h.cells).1
theorem on_any (b : Nat) (w : World) : Calls Try.prog 7 #[.pointer (some ⟨b, 0, none⟩)] w fun e w' => e = .returned (.pointer (some ⟨w.heap.size, 0, none⟩)) ∧ w' = w.alloc (.cells #[.pointer (some ⟨b, 0, none⟩), .slice none 0 0] 33) := by
  go_enter Try.func7, Try.ntmps7
  go_wp2
  go_ret
  exact ⟨rfl, rfl⟩
theorem dom_any (lb b base : Nat) (v : Value) (l : List OpP) (w : World) (h : LogIs w lb b base v l) : Calls Try.prog 12 #[.pointer (some ⟨lb, 0, none⟩)] w fun e w' => e = .returned (.pointer (some ⟨b, 0, none⟩)) ∧ w' = w := by
  have h0 := h.c0
  clear h
  go_enter Try.func12, Try.ntmps12
  go_wp2
  go_ret
  exact ⟨rfl, rfl⟩
def NoteTurn (lb : Nat) (v : Value) (g : Nat) : Prop := g = lb ∨ v.ownBlock = some g
set_option maxHeartbeats 4000000 in
set_option maxRecDepth 100000 in
theorem note_any (lb b base : Nat) (v : Value) (l : List OpP) (o : OpP) (w : World) (h : LogIs w lb b base v l) (hb : base ≤ w.heap.size) (hl : l.length ≤ 1000) :
    Calls Try.prog 14 #[.pointer (some ⟨lb, 0, none⟩), .int .i64 0, .agg (encO o).toArray] w fun e w' => e = .returned (.int .i64 0) ∧ ∃ v', LogIs w' lb b base v' (l ++ [o]) ∧ Beside (NoteTurn lb v) w w' := by
  obtain ⟨k1, k2, k3, k4, s1, s2⟩ := o
  obtain ⟨i0, hi, hz0, hz1, hz2⟩ := info_parts infoOp
  have mixed : Try.prog.follows .mixedOrders = true := by kernel_rfl
  have hlt := h.lt
  obtain ⟨W, hW⟩ : ∃ W, W = w.alloc (.cells #[.int .i64 k1, .int .i64 k2, .int .i64 k3, .int .i64 k4, .string s1, .string s2] 25) := ⟨_, rfl⟩
  have hC : W.heap[lb]? = some (.cells #[.pointer (some ⟨b, 0, none⟩), v] 33 (0, 0)) := by rw [hW]; exact (((below_alloc w _).block lb hlt).trans h.cells)
  have HO : Hid (W.ownsRow base 25 6 v l.length (ov l)) := by show World.ownsRow _ _ _ _ _ _ _; rw [hW]; exact h.own.alloc _
  have HB : Hid (Beside (NoteTurn lb v) w W) := by show Beside _ _ _; rw [hW]; exact (Beside.refl _ w).alloc _
  have hs : W.heap.size = w.heap.size + 1 := by rw [hW]; simp
  have HN := Lib.hid (own_not HO.out hC (by decide))
  have l1 : W.cell? ⟨lb, 1, none⟩ = some v := by rw [cell_of_row W lb 1 _ _ (0, 0) hC]; rfl
  have lz := frz0 hC 1
  have b0 : W.cell? ⟨w.heap.size, 0, none⟩ = some (.int .i64 k1) := by rw [hW]; simp
  have b1 : W.cell? ⟨w.heap.size, 1, none⟩ = some (.int .i64 k2) := by rw [hW]; simp
  have b2 : W.cell? ⟨w.heap.size, 2, none⟩ = some (.int .i64 k3) := by rw [hW]; simp
  have b3 : W.cell? ⟨w.heap.size, 3, none⟩ = some (.int .i64 k4) := by rw [hW]; simp
  have b4 : W.cell? ⟨w.heap.size, 4, none⟩ = some (.string s1) := by rw [hW]; simp
  have b5 : W.cell? ⟨w.heap.size, 5, none⟩ = some (.string s2) := by rw [hW]; simp
  have HC := Lib.hid hC
  have hl2 : lb < W.heap.size := by omega
  clear h hC
  unfold encO
  go_enter Try.func14, Try.ntmps14
  go_wp2_with fail
  rw [← hW]
  clear hW
  generalize w.heap.size = r at b0 b1 b2 b3 b4 b5 hs hb hlt
  go_region_law? (first | (refine step_append_at (by rfl) (.tmp 13) (.tmp 15) 22 (by rfl) base 25 i0 _ 6 64 Try.underlying22 hi hz0 hz1 hz2 rfl (by decide) v l.length (ov l) (by rfl) ?_ (some ⟨_, 0, none⟩) 1 1 [.int .i64 k1, .int .i64 k2, .int .i64 k3, .int .i64 k4, .string s1, .string s2] (by rfl) (fun h => nomatch h) rfl ?_ (ov_one [(k1, k2, k3, k4, s1, s2)]) ?_ ?_ ?_ ?_; (exact own_heap (HO.out.alloc _) rfl); (exact at_push1 W.heap #[.int .i64 k1, .int .i64 k2, .int .i64 k3, .int .i64 k4, .string s1, .string s2] 25 (r + 1) [.int .i64 k1, .int .i64 k2, .int .i64 k3, .int .i64 k4, .string s1, .string s2] rfl hs rfl); (unfold maxLen; omega); omega; (simp; omega); intro v8 w8 hown8 hgrow8; obtain ⟨A8, c8, rfl, hc8, hm8⟩ := own_slice hown8; have hq8 : w8.heap[lb]? = some (.cells #[.pointer (some ⟨b, 0, none⟩), v] 33 (0, 0)) := (hgrow8.block lb (by simp; omega) HN.out).trans (((below_alloc W _).block lb hl2).trans HC.out); have q8 : w8.cell? ⟨lb, 1, none⟩ = some v := (by rw [cell_of_row w8 lb 1 _ _ (0, 0) hq8]; rfl); have z8 := frz0 hq8 1))
  all_goals
    have hne8 := own_not hown8 hq8 (by decide)
    have H8 : Hid (∃ v', LogIs (w8.setCell ⟨lb, 1, none⟩ (.slice A8 (l.length + 1) c8)) lb b base v' (l ++ [(k1, k2, k3, k4, s1, s2)])) := by
      refine ⟨.slice A8 (l.length + 1) c8, ?_, ?_⟩
      · rw [set_block hq8 1 _]; rfl
      · have h9 := own_set hown8 hne8 1 (.slice A8 (l.length + 1) c8)
        rw [List.length_append, ov_app]
        exact h9
    have B8 : Hid (Beside (NoteTurn lb v) w (w8.setCell ⟨lb, 1, none⟩ (.slice A8 (l.length + 1) c8))) := by
      show Beside _ _ _
      refine Beside.set ?_ (.inl (.inl rfl)) _ _
      first
      | exact ((HB.out.alloc _).drewN 1).grown hgrow8 (fun q hq => .inl (.inr hq))
      | exact ((HB.out.drewN 1).alloc _).grown hgrow8 (fun q hq => .inl (.inr hq))
      | exact (HB.out.alloc _).grown hgrow8 (fun q hq => .inl (.inr hq))
    clear hown8 hgrow8 hq8 q8 z8 hne8
    go_wp2
    go_ret
    obtain ⟨v', hv'⟩ := H8.out
    exact ⟨rfl, v', hv', B8.out⟩
end Go.Proofs.Ytdhkcnncfcahoaa
