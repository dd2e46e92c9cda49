/- slices.Insert of one int where there is no room; the three roads in one. -/
import Derived.Test.YtdojalflgfacgaaWeP4
namespace Go.Proofs.Ytdojalflgfacgaa
open Go.RowKit We
attribute [-go_sem] Builtin.append_
theorem zeros_list (k : Nat) : (Builtin.zeroCells (Value.int .i64 0).cells k).toList = List.replicate k (Value.int .i64 0) := by
  simp only [Builtin.zeroCells, Value.cells]
  apply List.ext_getElem
  · simp
  · intro j h1 h2
    simp [Nat.mod_one]
set_option maxHeartbeats 2000000 in
set_option maxRecDepth 100000 in
theorem insert_grow (g n c i vb base : Nat) (l : List Int) (x : Int) (w : World) (hn : n = l.length) (hi : i < n) (hb : n ≤ 2000) (hroom : ¬ n + 1 ≤ c) (h : w.ownsRow base 3 1 (.slice (some ⟨g, 0, none⟩) n c) n (iv l)) (hbs : base ≤ w.heap.size) (hvb : w.heap[vb]? = some (.cells #[.int .i64 x] 3 (0, 0))) :
    Calls Try.prog 39 #[.slice (some ⟨g, 0, none⟩) n c, .int .i64 i, .slice (some ⟨vb, 0, none⟩) 1 1] w fun e w' => ∃ v', e = .returned v' ∧ w'.ownsRow base 3 1 v' (n + 1) (iv (putAt l i x)) ∧ Below w.heap.size w w' := by
  obtain ⟨i0, hi0, hz0, hz1, hz2⟩ := info_parts infoIntW
  obtain ⟨_, c', he, hc1, hc2⟩ := own_slice h
  injection he with he1 _ he
  subst he he1
  obtain rfl : c = n := by omega
  have H := Lib.hid h
  have hlen : (iv l).length = c := by rw [iv_len]; exact hn.symm
  have htl : (iv (l.take i)).length = i := by rw [iv_len, List.length_take]; omega
  have hdl : (iv (l.drop i)).length = c - i := by rw [iv_len, List.length_drop]; omega
  have hsz : (Try.prog.info? 3).map (·.size) = some 1 := by rw [hi0]; simp [hz1]
  have hold : (Builtin.firstCells i0.size i (.slice (some ⟨g, 0, none⟩) i c)).run Try.prog w.drew = .ok (iv (l.take i)).toArray w.drew :=
    run_firstCells_some w.drew i0.size i ⟨g, 0, none⟩ i c (iv (l.take i)) (by rw [hz1, Nat.mul_one]; exact htl) (fun j u hu => by
      have hjl := (List.getElem?_eq_some_iff.1 hu).1
      rw [Addr.add_lit, Nat.zero_add]
      have h8 := H.out.cellAt j (by omega)
      rw [show w.drew.cell? ⟨g, j, none⟩ = w.cell? ⟨g, j, none⟩ from rfl, h8]
      rw [iv_take, List.getElem?_take, if_pos (by omega)] at hu
      exact hu)
  have hrun := Lib.run_append_grow_zeros (P := Try.prog) w 22 3 22 3 i0 (.int .i64 0) .i64 .i64 Try.underlying22 Try.underlying3 hi0 hz0 (some ⟨g, 0, none⟩) i c (iv (l.take i)) hold (c + 1 - i) (by omega) (by omega) (by omega) (by omega) (by rw [hz2]; omega)
    (growslice_fits (by omega) (by rw [hz2]; omega))
  rw [show i + (c + 1 - i) = c + 1 by omega, show ((c + 1 - i : Nat) : Int) = (c : Int) + 1 - (i : Int) by omega] at hrun
  obtain ⟨CS, hCS⟩ : ∃ CS, CS = (iv (l.take i)).toArray ++ Builtin.zeroCells (Value.int .i64 0).cells (c + 1 - i) ++ Builtin.zeroCells (Value.int .i64 0).cells (grownCap w (c + 1) c 3 - (c + 1)) := ⟨_, rfl⟩
  have hge := grownCap_ge w (c + 1) c 3
  have hle := grownCap_le_maxLen w (c + 1) c 3 (by unfold maxLen; omega)
  rw [← hCS] at hrun
  have hCL : CS.toList = iv (l.take i) ++ List.replicate (c + 1 - i) (.int .i64 0) ++ List.replicate (grownCap w (c + 1) c 3 - (c + 1)) (.int .i64 0) := by
    rw [hCS, Array.toList_append, Array.toList_append, zeros_list, zeros_list]
  have hCz : CS.size = grownCap w (c + 1) c 3 := by
    rw [← Array.length_toList, hCL, List.length_append, List.length_append, List.length_replicate, List.length_replicate, htl]
    omega
  generalize grownCap w (c + 1) c 3 = k at *
  have o0 : (w.drew.alloc (.cells CS 3)).ownsRow base 3 1 (.slice (some ⟨w.heap.size, 0, none⟩) (c + 1) k) (c + 1) (iv (l.take i) ++ List.replicate (c + 1 - i) (.int .i64 0)) := by
    refine ⟨by rw [List.length_append, List.length_replicate, htl]; omega, .inr ⟨w.heap.size, k, CS, rfl, hbs, heap_alloc_new w.drew _, hge, hle, by omega, ?_⟩⟩
    rw [hCL, Nat.mul_one, List.take_left' (by rw [List.length_append, List.length_replicate, htl]; omega)]
  have hB1 : Below w.heap.size w (w.drew.alloc (.cells CS 3)) := ⟨rfl, rfl, rfl, by simp, fun q hq => heap_alloc_old w.drew _ hq⟩
  have hvl := (Array.getElem?_eq_some_iff.1 hvb).1
  have hvb1 := (hB1.block vb hvl).trans hvb
  have H1 := own_below H.out hB1
  have hgl := (H.out.lt g rfl).2
  clear hCL hCz hold hCS
  generalize w.drew.alloc (.cells CS 3) = W1 at *
  have hcpA : ∀ ty dc, (Builtin.copy_ #[22, 22] ty #[.slice (some ⟨w.heap.size, i, none⟩) (c + 1 - i) dc, .slice (some ⟨vb, 0, none⟩) 1 1]).run Try.prog W1 = .ok (goInt [Value.int .i64 x].length) (W1.setCells w.heap.size i [.int .i64 x]) := fun ty dc =>
    run_copy_cells W1 _ _ ty 3 w.heap.size i (c + 1 - i) dc ⟨vb, 0, none⟩ 1 1 [.int .i64 x] Try.underlying22 hsz (by simp only [Nat.min_def, List.length_singleton]; split <;> omega)
      (fun j u hu => by
        have hj : j = 0 := by
          have := (List.getElem?_eq_some_iff.1 hu).1
          simpa using this
        subst hj
        simp at hu
        subst hu
        rw [Addr.add_lit, cell_of_row W1 vb 0 _ _ (0, 0) hvb1]
        rfl)
      (fun j hj => by
        have h8 := o0.cellAt (i + j) (by simp at hj; omega)
        have hl9 := o0.1
        rw [h8, List.getElem?_eq_getElem (by simp at hj; omega)]
        rfl) (fun j _ => o0.frozenAt _) (iv_one [x])
  obtain ⟨o2, g2⟩ := own_setCells [.int .i64 x] W1 i _ o0 (by simp; omega)
  have hB2 := hB1.grown g2 hB1.size (fun q hq => by injection hq with hq; omega)
  have H2 := H1.kept g2 (.inr (by simp [Value.ownBlock]; omega))
  clear o0 H1
  generalize W1.setCells w.heap.size i [.int .i64 x] = W2 at *
  have hcpB : ∀ ty dc sc, (Builtin.copy_ #[22, 22] ty #[.slice (some ⟨w.heap.size, i + 1, none⟩) (c - i) dc, .slice (some ⟨g, i, none⟩) (c - i) sc]).run Try.prog W2.drew = .ok (goInt (iv (l.drop i)).length) (W2.drew.setCells w.heap.size (i + 1) (iv (l.drop i))) := fun ty dc sc =>
    run_copy_cells W2.drew _ _ ty 3 w.heap.size (i + 1) (c - i) dc ⟨g, i, none⟩ (c - i) sc (iv (l.drop i)) Try.underlying22 hsz (by rw [hdl]; simp only [Nat.min_def]; split <;> omega)
      (fun j u hu => by
        have hjl := (List.getElem?_eq_some_iff.1 hu).1
        rw [Addr.add_lit]
        have h8 := H2.cellAt (i + j) (by omega)
        rw [show W2.drew.cell? ⟨g, i + j, none⟩ = W2.cell? ⟨g, i + j, none⟩ from rfl, h8, ← hu]
        simp [iv])
      (fun j hj => by
        rw [hdl] at hj
        have h8 := o2.cellAt (i + 1 + j) (by omega)
        have hl9 := o2.1
        rw [show W2.drew.cell? ⟨w.heap.size, i + 1 + j, none⟩ = W2.cell? ⟨w.heap.size, i + 1 + j, none⟩ from rfl, h8, List.getElem?_eq_getElem (by omega)]
        rfl) (fun j _ => o2.frozenAt _) (iv_one _)
  obtain ⟨o3, g3⟩ := own_setCells (iv (l.drop i)) W2.drew (i + 1) _ (own_heap o2 rfl) (by omega)
  have hB2d : Below w.heap.size w W2.drew := ⟨hB2.os, hB2.tape, hB2.output, hB2.size, hB2.block⟩
  have hB3 := hB2d.grown g3 hB2d.size (fun q hq => by injection hq with hq; omega)
  have hfin : (((iv (l.take i) ++ List.replicate (c + 1 - i) (Value.int .i64 0)).take i ++ [Value.int .i64 x] ++ (iv (l.take i) ++ List.replicate (c + 1 - i) (Value.int .i64 0)).drop (i + [Value.int .i64 x].length)).take (i + 1) ++ iv (l.drop i) ++ ((iv (l.take i) ++ List.replicate (c + 1 - i) (Value.int .i64 0)).take i ++ [Value.int .i64 x] ++ (iv (l.take i) ++ List.replicate (c + 1 - i) (Value.int .i64 0)).drop (i + [Value.int .i64 x].length)).drop (i + 1 + (iv (l.drop i)).length)) = iv (putAt l i x) := by
    have e1 : (iv (l.take i) ++ List.replicate (c + 1 - i) (Value.int .i64 0)).take i = iv (l.take i) := List.take_left' htl
    have e2 : (iv (l.take i) ++ [Value.int .i64 x]).length = i + 1 := by rw [List.length_append, htl]; rfl
    rw [e1, List.take_left' e2, List.drop_eq_nil_of_le (i := i + 1 + (iv (l.drop i)).length) (by rw [List.length_append, e2, List.length_drop, List.length_append, List.length_replicate, htl, hdl, List.length_singleton]; omega), List.append_nil]
    unfold putAt
    rw [iv_app, List.append_assoc]
    rfl
  rw [hfin] at o3
  have O3 := Lib.hid o3
  have B3 := Lib.hid hB3
  have hz9 : ¬ ((i : Int) = (c : Int)) := by omega
  have hci : ¬ (c = i) := by omega
  have hki : ¬ (k = i) := by omega
  have hki1 : ¬ (k = i + 1) := by omega
  clear hfin o2 g2 g3 o3 hB1 hB2 hB2d hB3 H2 hvb1 hvb hvl hgl hdl htl hlen h hn
  go_enter Try.func39, Try.ntmps39
  go_wp2_with fail
  go_region
  go_wp2_with fail
  go_ret
  exact ⟨_, rfl, O3.out, B3.out⟩
end Go.Proofs.Ytdojalflgfacgaa
