/- arena's Insert of the first node below the root of a Dom. -/
import Derived.Test.YtdhkcnncfcahoaaAr5
import Derived.Maps.AppendAt
namespace Go.Proofs.Ytdhkcnncfcahoaa
open Go.RowKit
theorem infoInt : (Try.prog.info? 3).map (fun i => (i.zero, i.size, i.bytes)) = some (some (.int .i64 0), 1, 8) := by kernel_rfl
set_option maxHeartbeats 1000000 in
theorem insert_nil (g : Nat) (x : Int) (w : World) (hc : w.cell? ⟨g, 0, none⟩ = some (.int .i64 x)) :
    Calls Try.prog 21 #[.slice none 0 0, .int .i64 0, .slice (some ⟨g, 0, none⟩) 1 1] w fun e w' => ∃ v, e = .returned v ∧ w'.ownsRow w.heap.size 3 1 v 1 [.int .i64 x] ∧ Below w.heap.size w w' := by
  obtain ⟨i0, hi, hz0, hz1, hz2⟩ := info_parts infoInt
  have HC := Lib.hid hc
  clear hc
  go_enter Try.func21, Try.ntmps21
  go_wp2_with (at_builtin; refine wpList_append_own _ rfl _ _ 45 rfl w.heap.size 3 i0 (.int .i64 0) 1 8 Try.underlying45 hi hz0 hz1 hz2 rfl (by decide) _ _ _ rfl (World.ownsRow_nil _ _ _ _) ⟨g, 0, none⟩ 1 1 [.int .i64 x] rfl rfl (by intro j u hu; match j, hu with | 0, hu => simp at hu; subst hu; simpa [Addr.add] using HC.out) (by intro u hu; simp at hu; subst hu; rfl) (by unfold maxLen; omega) (by omega) (Nat.le_refl _) ?_; intro v1 w5 hown1 hgrow1 _hnil1; have HO := Lib.hid hown1; have HG := Lib.hid hgrow1; clear hown1 hgrow1 _hnil1)
  go_ret
  exact ⟨_, rfl, HO.out, (Below.refl _ _).grown HG.out (Nat.le_refl _) (fun q hq => by cases hq)⟩
theorem find_at (b m : Nat) (f : Int → Option Value) (n : Nat) (nx mo : Int) (i : Int) (v : Value) (w : World) (h : DomIs w b m f n nx mo) (hi : (Lit.int .i64 i).wf = true) (hv : f i = some v) :
    Calls Try.prog 19 #[.pointer (some ⟨b, 0, none⟩), .int .i64 i] w fun e w' => e = .returned v ∧ w' = w :=
  (find_any b m f n nx mo i w h hi).mono fun _ _ ⟨h1, h2⟩ => ⟨by rw [h1, hv]; rfl, h2⟩
/-- a Dom of the root and of one loose node. -/
structure TwoIs (w : World) (b m r0 r1 : Nat) (f : Int → Option Value) : Prop where
  dom : DomIs w b m f 2 2 3
  f0 : f 0 = some (.pointer (some ⟨r0, 0, none⟩))
  f1 : f 1 = some (.pointer (some ⟨r1, 0, none⟩))
  n0 : w.heap[r0]? = some (.cells rootCells 47 (0, 0))
  n1 : w.heap[r1]? = some (.cells (nodeCells 1 2 ⟨#[112]⟩ ⟨#[]⟩ (-1) (.slice none 0 0)) 47 (0, 0))
  ne : r0 ≠ r1
theorem within01 (b m r0 r1 : Nat) (f : Int → Option Value) (w : World) (h : TwoIs w b m r0 r1 f) :
    Calls Try.prog 20 #[.pointer (some ⟨b, 0, none⟩), .int .i64 0, .int .i64 1] w fun e w' => e = .returned (.bool false) ∧ w' = w := by
  have F0 := Lib.hid (find_at b m f 2 2 3 0 _ w h.dom (by decide) h.f0)
  have F1 := Lib.hid (find_at b m f 2 2 3 1 _ w h.dom (by decide) h.f1)
  have c1 : w.cell? ⟨r1, 8, none⟩ = some (.slice none 0 0) := by rw [cell_of_row w r1 8 _ _ (0, 0) h.n1]; rfl
  have c0 : w.cell? ⟨r0, 0, none⟩ = some (.int .i64 0) := by rw [cell_of_row w r0 0 _ _ (0, 0) h.n0]; rfl
  clear h
  go_enter Try.func20, Try.ntmps20
  go_wp2_with fail
  refine F0.out.mono ?_
  rintro e w5 ⟨rfl, hw5⟩
  subst hw5
  go_wp2_with fail
  refine F1.out.mono ?_
  rintro e w6 ⟨rfl, hw6⟩
  subst hw6
  go_wp2
  refine wp_loop_rounds 1 ?_
  rw [rounds_succ]
  go_wp2
  go_ret
  exact ⟨rfl, rfl⟩
set_option maxHeartbeats 2000000 in
set_option maxRecDepth 100000 in
theorem insert01 (b m r0 r1 : Nat) (f : Int → Option Value) (w : World) (h : TwoIs w b m r0 r1 f) :
    Calls Try.prog 15 #[.pointer (some ⟨b, 0, none⟩), .int .i64 0, .int .i64 0, .int .i64 1] w fun e w' => e = .returned (.int .i64 0) ∧ Beside (DomTurn r0 r1) w w' := by
  have F0 := Lib.hid (find_at b m f 2 2 3 0 _ w h.dom (by decide) h.f0)
  have F1 := Lib.hid (find_at b m f 2 2 3 1 _ w h.dom (by decide) h.f1)
  have FW := Lib.hid (within01 b m r0 r1 f w h)
  have N0 := Lib.hid h.n0
  have N1 := Lib.hid h.n1
  have k0 : w.cell? ⟨r0, 1, none⟩ = some (.int .i64 2) := by rw [cell_of_row w r0 1 _ _ (0, 0) h.n0]; rfl
  have k8 : w.cell? ⟨r0, 8, none⟩ = some (.slice none 0 0) := by rw [cell_of_row w r0 8 _ _ (0, 0) h.n0]; rfl
  have p1 : w.cell? ⟨r1, 7, none⟩ = some (.int .i64 (-1)) := by rw [cell_of_row w r1 7 _ _ (0, 0) h.n1]; rfl
  have hl0 : r0 < w.heap.size := (Array.getElem?_eq_some_iff.1 h.n0).1
  have hl1 : r1 < w.heap.size := (Array.getElem?_eq_some_iff.1 h.n1).1
  have hne := h.ne
  clear h
  go_enter Try.func15, Try.ntmps15
  go_wp2_with fail
  refine F0.out.mono ?_
  rintro e w5 ⟨rfl, hw5⟩
  subst hw5
  go_wp2_with fail
  refine F1.out.mono ?_
  rintro e w6 ⟨rfl, hw6⟩
  subst hw6
  go_wp2_with fail
  refine FW.out.mono ?_
  rintro e w7 ⟨rfl, hw7⟩
  subst hw7
  go_wp2_with fail
  refine (insert_nil w7.heap.size 1 _ (by simp)).mono ?_
  rintro e w8 ⟨v8, rfl, hown8, hb8⟩
  have hB8 : Below w7.heap.size w7 w8 := (below_alloc w7 (.cells #[.int .i64 1] 3)).trans (hb8.mono (by simp))
  have m0 := (hB8.block r0 hl0).trans N0.out
  have m1 := (hB8.block r1 hl1).trans N1.out
  have q8 : w8.cell? ⟨r0, 8, none⟩ = some (.slice none 0 0) := by rw [cell_of_row w8 r0 8 _ _ (0, 0) m0]; rfl
  have q7 : w8.cell? ⟨r1, 7, none⟩ = some (.int .i64 (-1)) := by rw [cell_of_row w8 r1 7 _ _ (0, 0) m1]; rfl
  have z8 := frz0 m0 8
  have z7 := frz0 m1 7
  have HB8 := Lib.hid hB8
  obtain ⟨A8, c8, rfl, _, _⟩ := own_slice hown8
  clear hb8 hB8 hown8 m0 m1 k0 k8 p1
  go_wp2
  go_ret
  exact ⟨rfl, ((Beside.ofBelow HB8.out).set (.inl (.inl rfl)) _ _).set (.inl (.inr rfl)) _ _⟩
end Go.Proofs.Ytdhkcnncfcahoaa
