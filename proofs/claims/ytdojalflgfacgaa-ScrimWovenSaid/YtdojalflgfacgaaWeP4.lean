/- Contract of slices.Insert of one int, in a row of the call's own. -/
import Derived.Test.YtdojalflgfacgaaWeP2
import Derived.Lib.Overlaps
import Derived.Lib.AppendZerosOnto
import Derived.Laws.Externs
import Derived.Laws.IdiomCopy
import Derived.Shelf.Spec.SlicesInsert
namespace Go.Proofs.Ytdojalflgfacgaa
open Go.RowKit We
attribute [-go_sem] Builtin.append_
theorem own_wider {w : World} {base : Nat} {e : TypeId} {g n c k : Nat} {xs : List Value} (h : w.ownsRow base e 1 (.slice (some ⟨g, 0, none⟩) n c) n xs) (hk : n ≤ k) (hc : k ≤ c) : ∃ ys, ys.length = k - n ∧ w.ownsRow base e 1 (.slice (some ⟨g, 0, none⟩) k c) k (xs ++ ys) := by
  rcases h with ⟨h1, ⟨hv, _⟩ | ⟨g', c', cur, hv, h3, hh, h4, h5, h6, h7⟩⟩
  · injection hv with hv; cases hv
  · injection hv with hv _ hc'
    injection hv with hv
    injection hv with hv
    subst hv hc'
    have hs : k ≤ cur.size := by omega
    have hcz : cur.toList.length = cur.size := Array.length_toList
    have hx : xs.length = n := by rw [h1, Nat.mul_one]
    refine ⟨(cur.toList.take k).drop n, by rw [List.length_drop, List.length_take, hcz, Nat.min_eq_left hs], ?_, .inr ⟨g, c, cur, rfl, h3, hh, hc, h5, h6, ?_⟩⟩
    · rw [List.length_append, List.length_drop, List.length_take, hcz, Nat.min_eq_left hs, hx]; omega
    · rw [Nat.mul_one, ← h7, Nat.mul_one]
      rw [show cur.toList.take n = (cur.toList.take k).take n by rw [List.take_take, Nat.min_eq_left hk], List.take_append_drop]
theorem own_block {w : World} {base : Nat} {e : TypeId} {g n c : Nat} {xs : List Value} (h : w.ownsRow base e 1 (.slice (some ⟨g, 0, none⟩) n c) n xs) : ∃ cur, w.heap[g]? = some (.cells cur e (0, 0)) ∧ cur.size = c := by
  rcases h with ⟨_, ⟨hv, _⟩ | ⟨g', c', cur, hv, _, hh, _, _, h6, _⟩⟩
  · injection hv with hv; cases hv
  · injection hv with hv _ hc'
    injection hv with hv
    injection hv with hv
    subst hv hc'
    exact ⟨cur, hh, by rw [h6, Nat.mul_one]⟩
theorem insert_end (v : Value) (n vb base : Nat) (l : List Int) (x : Int) (w : World) (hn : n = l.length) (hb : n ≤ 2000) (h : w.ownsRow base 3 1 v n (iv l)) (hbs : base ≤ w.heap.size) (hvb : w.cell? ⟨vb, 0, none⟩ = some (.int .i64 x)) :
    Calls Try.prog 39 #[v, .int .i64 n, .slice (some ⟨vb, 0, none⟩) 1 1] w fun e w' => ∃ v', e = .returned v' ∧ w'.ownsRow base 3 1 v' (n + 1) (iv (l ++ [x])) ∧ Beside (fun y => v.ownBlock = some y) w w' := by
  obtain ⟨i0, hi, hz0, hz1, hz2⟩ := info_parts infoIntW
  obtain ⟨v', w', hrun, hown, hgrow, _, _⟩ := run_append_own_at (P := Try.prog) w base 22 22 3 i0 (.int .i64 0) 1 8 Try.underlying22 hi hz0 hz1 hz2 rfl (by decide) v n (iv l) h ⟨vb, 0, none⟩ 1 1 [.int .i64 x] rfl (by
    intro j u hu
    have hj : j = 0 := by
      have := (List.getElem?_eq_some_iff.1 hu).1
      simpa using this
    subst hj
    simp at hu
    subst hu
    exact hvb) (iv_one [x]) (by unfold maxLen; omega) (by omega) hbs
  have HO := Lib.hid hown
  have HB := Lib.hid ((Beside.refl (fun y => v.ownBlock = some y) w).grown hgrow (fun q hq => .inl hq))
  obtain ⟨A, c, rfl, hc1, hc2⟩ := own_slice h
  obtain ⟨g', k', rfl⟩ := ownsRow_succ hown
  clear hn h hown hgrow hvb hbs
  by_cases hcc : c = n
  · subst hcc
    go_enter Try.func39, Try.ntmps39
    go_wp2_with fail
    all_goals go_ret
    all_goals exact ⟨_, rfl, by have h9 := HO.out; rw [iv_app]; exact h9, HB.out⟩
  · go_enter Try.func39, Try.ntmps39
    go_wp2_with fail
    all_goals go_ret
    all_goals exact ⟨_, rfl, by have h9 := HO.out; rw [iv_app]; exact h9, HB.out⟩
set_option maxHeartbeats 2000000 in
set_option maxRecDepth 100000 in
theorem insert_room (g n c i vb base : Nat) (l : List Int) (x : Int) (w : World) (hn : n = l.length) (hi : i < n) (hb : n ≤ 2000) (hroom : n + 1 ≤ c) (h : w.ownsRow base 3 1 (.slice (some ⟨g, 0, none⟩) n c) n (iv l)) (hvb : w.heap[vb]? = some (.cells #[.int .i64 x] 3 (0, 0))) (hne : vb ≠ g) :
    Calls Try.prog 39 #[.slice (some ⟨g, 0, none⟩) n c, .int .i64 i, .slice (some ⟨vb, 0, none⟩) 1 1] w fun e w' => e = .returned (.slice (some ⟨g, 0, none⟩) (n + 1) c) ∧ w'.ownsRow base 3 1 (.slice (some ⟨g, 0, none⟩) (n + 1) c) (n + 1) (iv (putAt l i x)) ∧ Beside (fun y => y = g) w w' := by
  obtain ⟨i0, hi0, hz0, hz1, hz2⟩ := info_parts infoIntW
  obtain ⟨_, c', he, hc1, hc2⟩ := own_slice h
  injection he with he1 _ he
  subst he he1
  obtain ⟨ys, hyl, h9⟩ := own_wider h (show n ≤ n + 1 by omega) hroom
  have H := Lib.hid h9
  have hlen : (iv l).length = n := by rw [iv_len]; exact hn.symm
  have hdl : (iv (l.drop i)).length = n - i := by rw [iv_len, List.length_drop]; omega
  have hsz : (Try.prog.info? 3).map (·.size) = some 1 := by rw [hi0]; simp [hz1]
  have hcl1 : ∀ j, j < n + 1 → (w.cell? ⟨g, j, none⟩).isSome = true := fun j hj => by
    have h8 := H.out.cellAt j (by omega)
    have hl9 := H.out.1
    rw [h8, List.getElem?_eq_getElem (by omega)]
    rfl
  have hcp1 : ∀ ty dc sc, (Builtin.copy_ #[22, 22] ty #[.slice (some ⟨g, i + 1, none⟩) (n - i) dc, .slice (some ⟨g, i, none⟩) (n + 1 - i) sc]).run Try.prog w.drew = .ok (goInt (iv (l.drop i)).length) (w.drew.setCells g (i + 1) (iv (l.drop i))) := fun ty dc sc =>
    run_copy_cells w.drew _ _ ty 3 g (i + 1) (n - i) dc ⟨g, i, none⟩ (n + 1 - i) sc (iv (l.drop i)) Try.underlying22 hsz (by rw [hdl]; simp only [Nat.min_def]; split <;> omega)
      (fun j u hu => by
        have hjl := (List.getElem?_eq_some_iff.1 hu).1
        rw [Addr.add_lit]
        have h8 := H.out.cellAt (i + j) (by omega)
        rw [show w.drew.cell? ⟨g, i + j, none⟩ = w.cell? ⟨g, i + j, none⟩ from rfl, h8, List.getElem?_append_left (by omega), ← hu]
        simp [iv])
      (fun j hj => by rw [hdl] at hj; exact hcl1 _ (by omega)) (fun j _ => H.out.frozenAt _) (iv_one _)
  obtain ⟨o1, g1⟩ := own_setCells (iv (l.drop i)) w.drew (i + 1) (iv l ++ ys) (own_heap H.out rfl) (by omega)
  have BD : Beside (fun y => y = g) w w.drew := ⟨rfl, rfl, rfl, Nat.le_refl _, fun _ _ _ => rfl⟩
  have BS1 := Lib.hid (BD.grown g1 (fun q hq => by injection hq with hq; exact .inl hq.symm))
  have hvb1 : (w.drew.setCells g (i + 1) (iv (l.drop i))).heap[vb]? = some (.cells #[.int .i64 x] 3 (0, 0)) := (g1.block vb (Array.getElem?_eq_some_iff.1 hvb).1 (by simpa using hne)).trans hvb
  have O1 := Lib.hid o1
  clear o1 g1 BD
  generalize w.drew.setCells g (i + 1) (iv (l.drop i)) = W1 at *
  have hcp2 : ∀ ty dc, (Builtin.copy_ #[22, 22] ty #[.slice (some ⟨g, i, none⟩) (n + 1 - i) dc, .slice (some ⟨vb, 0, none⟩) 1 1]).run Try.prog W1 = .ok (goInt [Value.int .i64 x].length) (W1.setCells g i [.int .i64 x]) := fun ty dc =>
    run_copy_cells W1 _ _ ty 3 g i (n + 1 - i) dc ⟨vb, 0, none⟩ 1 1 [.int .i64 x] Try.underlying22 hsz (by simp only [Nat.min_def, List.length_singleton]; split <;> omega)
      (fun j u hu => by
        have hj : j = 0 := by
          have := (List.getElem?_eq_some_iff.1 hu).1
          simpa using this
        subst hj
        simp at hu
        subst hu
        rw [Addr.add_lit, cell_of_row W1 vb 0 _ _ (0, 0) hvb1]
        rfl)
      (fun j hj => by
        have h8 := O1.out.cellAt (i + j) (by simp at hj; omega)
        have hl9 := O1.out.1
        rw [h8, List.getElem?_eq_getElem (by simp at hj; omega)]
        rfl) (fun j _ => O1.out.frozenAt _) (iv_one [x])
  obtain ⟨o2, g2⟩ := own_setCells [.int .i64 x] W1 i _ O1.out (by simp; omega)
  have BS2 := Lib.hid (BS1.out.grown g2 (fun q hq => by injection hq with hq; exact .inl hq.symm))
  have O2 := Lib.hid o2
  clear o2 g2
  have hfin : (((iv l ++ ys).take (i + 1) ++ iv (l.drop i) ++ (iv l ++ ys).drop (i + 1 + (iv (l.drop i)).length)).take i ++ [Value.int .i64 x] ++ ((iv l ++ ys).take (i + 1) ++ iv (l.drop i) ++ (iv l ++ ys).drop (i + 1 + (iv (l.drop i)).length)).drop (i + [Value.int .i64 x].length)) = iv (putAt l i x) := by
    have e0 : (iv l ++ ys).drop (i + 1 + (iv (l.drop i)).length) = [] := List.drop_eq_nil_of_le (by rw [List.length_append, hdl, hyl]; omega)
    have e1 : ((iv l ++ ys).take (i + 1)).length = i + 1 := by rw [List.length_take, List.length_append, hyl]; omega
    rw [e0, List.append_nil, List.length_singleton, List.drop_left' e1, List.take_append_of_le_length (by omega), List.take_take, Nat.min_eq_left (by omega), List.take_append_of_le_length (by omega), ← iv_take]
    unfold putAt
    rw [iv_app, List.append_assoc]
    rfl
  rw [hfin] at O2
  obtain ⟨cur, hgc, hgs⟩ := own_block h
  have hov : ∀ lb cb, (callFunc 44 #[.slice (some ⟨vb, 0, none⟩) 1 1, .slice (some ⟨g, i + 1, none⟩) lb cb]).run Try.prog w = .ok (.value (.bool false)) w := fun lb cb => by
    rw [run_callFunc_extern Try.func44 (by kernel_rfl) (by kernel_rfl) (by kernel_rfl) (e := Extern.SlicesOverlaps.overlaps #[22, 22] #[4]) (by kernel_rfl),
      Lib.run_overlaps_apart w 22 4 3 Try.underlying22 1 (fun _ => by kernel_rfl) ⟨vb, 0, none⟩ ⟨g, i + 1, none⟩ 1 1 lb cb hne 3 3 1 c (by simp [World.shape?, hvb]) (by simp [World.shape?, hgc, hgs]) (by omega) (by simp [World.frozen?, hvb]) (by simp [World.frozen?, hvb])]
    rfl
  have hb2 : ¬ (c = i + 1) := by omega
  have hb4 : ¬ (c = i) := by omega
  have hz9 : ¬ ((i : Int) = (n : Int)) := by omega
  have hr9 : ¬ ((n : Int) + 1 > (c : Int)) := by omega
  clear hfin hyl hdl hlen hvb1 hgc hgs hcl1 h h9 hn hvb
  go_enter Try.func39, Try.ntmps39
  go_wp2_with (simp only [hov])
  go_region
  go_wp2_with fail
  go_ret
  exact ⟨rfl, O2.out, BS2.out⟩
end Go.Proofs.Ytdojalflgfacgaa
