/- Contracts of the library heap's Push, Pop and Remove at a heap of timers. -/
import Derived.Test.YtdbgmogllncffaaWhW7
namespace Go.Proofs.Ytdbgmogllncffaa
open Go.RowKit Go.Sort Wh
theorem bad_fresh {s b : Nat} {rv mv rv' mv' : Value} (h : Fresh s rv mv rv' mv') : ∀ g, Bad b rv' mv' g → Bad b rv mv g ∨ s ≤ g := by
  intro g hg
  rcases hg with h1 | h1 | h1
  · exact .inl (.inl h1)
  · rcases h.1 g h1 with h2 | h2
    · exact .inl (.inr (.inl h2))
    · exact .inr h2
  · rcases h.2 g h1 with h2 | h2
    · exact .inl (.inr (.inr h2))
    · exact .inr h2
theorem take_perm {xs : List Tm} {k : Nat} (hk : xs.length = k + 1) : xs.Perm (g xs k :: xs.take k) := by
  have e : xs = xs.take k ++ [g xs k] := by
    have h1 := List.take_append_drop k xs
    have h2 : xs.drop k = [g xs k] := by
      apply List.ext_getElem?
      intro j
      rw [List.getElem?_drop]
      cases j with
      | zero => simp only [Nat.add_zero, List.getElem?_cons_zero]; exact g_at (by omega)
      | succ j => rw [List.getElem?_eq_none (by omega)]; simp
    rw [h2] at h1
    exact h1.symm
  calc xs.Perm (xs.take k ++ [g xs k]) := by rw [← e]
    _ |>.Perm (g xs k :: xs.take k) := List.perm_append_singleton _ _
/-- a wheel: a heap of timers, in order. -/
structure Wl (w : World) (b : Nat) (rv mv : Value) (last most : Int) (xs : List Tm) : Prop where
  pl : Pl w b rv mv last most xs
  heap : Heap xs.length (g xs)
theorem Wl.below {w w' : World} {b : Nat} {rv mv : Value} {last most : Int} {xs : List Tm} (h : Wl w b rv mv last most xs) (hb : Below w.heap.size w w') : Wl w' b rv mv last most xs := ⟨h.pl.below hb, h.heap⟩
theorem Pl.cell0 {w : World} {b : Nat} {rv mv : Value} {last most : Int} {xs : List Tm} (h : Pl w b rv mv last most xs) : ∃ A c, w.cell? ⟨b, 0, none⟩ = some (.slice A xs.length c) := by
  obtain ⟨A, c, rfl, _, _⟩ := own_slice h.row
  exact ⟨A, c, h.blk.cell 0 rfl⟩
theorem plen_pl {w : World} {b : Nat} {rv mv : Value} {last most : Int} {xs : List Tm} (h : Pl w b rv mv last most xs) :
    Calls Try.prog 22 #[.pointer (some ⟨b, 0, none⟩)] w fun e w' => e = .returned (.int .i64 (xs.length : Nat)) ∧ w = w' := by
  obtain ⟨A, c, hc⟩ := h.cell0
  exact plen_any b _ c A w hc
theorem heap_take {xs : List Tm} {k : Nat} (hk : xs.length = k + 1) (h : Heap k (g xs)) : Heap (xs.take k).length (g (xs.take k)) := by
  have hl : (xs.take k).length = k := by rw [List.length_take]; omega
  rw [hl]
  refine h.congr fun p hp => ?_
  unfold g
  simp only [List.getD_eq_getElem?_getD, List.getElem?_take, if_pos hp]
set_option maxHeartbeats 2000000 in
set_option maxRecDepth 100000 in
theorem hpush_any (b : Nat) (rv mv : Value) (last most : Int) (xs : List Tm) (t : Tm) (w : World) (h : Wl w b rv mv last most xs) (ht : OkI t.tok) (hn : ∀ x ∈ xs, x.tok ≠ t.tok) (hf : xs.length < 65536) :
    Calls Try.prog 27 #[.iface 72 (.pointer (some ⟨b, 0, none⟩)), .iface 47 (tmv t)] w fun e w' => e = .returned (.tuple #[]) ∧ ∃ rv' mv' xs', Wl w' b rv' mv' last most xs' ∧ xs'.Perm (xs ++ [t]) ∧ Beside (Bad b rv mv) w w' ∧ Fresh w.heap.size rv mv rv' mv' := by
  have C := Lib.hid (push_any b rv mv last most xs t w h.pl ht hn hf)
  have HH := Lib.hid h.heap
  unfold tmv
  clear h ht hn
  go_enter Try.func27, Try.ntmps27
  go_wp2_with fail
  refine C.out.mono ?_
  rintro e w1 ⟨rfl, rv1, mv1, hp1, hb1, hf1⟩
  have L1 := Lib.hid (plen_pl hp1)
  have hl1 : (xs ++ [t]).length = xs.length + 1 := by simp
  have U1 := Lib.hid (up_any b rv1 mv1 last most (xs ++ [t]) (xs.length + 1) xs.length w1 hp1 (by omega) (by omega) (heapX_push HH.out (fun k hk => by unfold g; simp only [List.getD_eq_getElem?_getD, List.getElem?_append_left hk])))
  rw [hl1] at L1
  have HB1 := Lib.hid hb1
  have HF1 := Lib.hid hf1
  clear hp1 hb1 hf1 C hl1
  go_wp2_with fail
  refine L1.out.mono ?_
  rintro e w2 ⟨rfl, rfl⟩
  go_wp2_with fail
  refine U1.out.mono ?_
  rintro e w3 ⟨rfl, xs3, hu, hh⟩
  have HR : Hid (∃ rv' mv' xs', Wl w3 b rv' mv' last most xs' ∧ xs'.Perm (xs ++ [t]) ∧ Beside (Bad b rv mv) w w3 ∧ Fresh w.heap.size rv mv rv' mv') :=
    ⟨rv1, mv1, xs3, ⟨hu.pl, by rw [show xs3.length = xs.length + 1 by rw [hu.perm.length_eq]; simp]; exact hh⟩, hu.perm, HB1.out.over hu.beside (bad_fresh HF1.out), HF1.out⟩
  clear hu hh
  go_wp2
  go_end0
  exact ⟨rfl, HR.out⟩
theorem heapD_zero {xs : List Tm} {k : Nat} (hk : xs.length = k + 1) (h : Heap xs.length (g xs)) {i : Nat} (hi : i < k ∨ i = 0) : HeapD k (g (swp xs i k)) i False := by
  rw [hk] at h
  rcases Nat.lt_or_ge i k with h1 | h1
  · rw [sw_g xs i k (by omega) (by omega)]
    exact heapD_swap h h1
  · have : i = 0 := by omega
    subst this
    have : k = 0 := by omega
    subst this
    exact ⟨fun k h1 h2 => by omega, fun k h1 h2 => by omega⟩
set_option maxHeartbeats 2000000 in
set_option maxRecDepth 100000 in
theorem hpop_any (b k : Nat) (rv mv : Value) (last most : Int) (xs : List Tm) (w : World) (h : Wl w b rv mv last most xs) (hk : xs.length = k + 1) :
    Calls Try.prog 28 #[.iface 72 (.pointer (some ⟨b, 0, none⟩))] w fun e w' => e = .returned (.iface 47 (tmv (g xs 0))) ∧ ∃ rv' xs', Wl w' b rv' mv last most xs' ∧ xs.Perm (g xs 0 :: xs') ∧ Beside (Bad b rv mv) w w' ∧ Fresh w.heap.size rv mv rv' mv := by
  have L := Lib.hid (plen_pl h.pl)
  rw [hk] at L
  have hf := h.pl.few
  have CS := Lib.hid (swap_any b rv mv last most xs 0 k w h.pl (by omega) (by omega))
  have HH := Lib.hid h.heap
  have HK := Lib.hid hk
  clear h
  have hk6 : k < 65536 := by omega
  have hkk : ((k + 1 : Nat) : Int) - 1 = (k : Int) := by omega
  clear hk hf
  generalize hN : ((k + 1 : Nat) : Int) = N at L hkk
  go_enter Try.func28, Try.ntmps28
  go_wp2_with fail
  refine L.out.mono ?_
  rintro e w2 ⟨rfl, rfl⟩
  go_wp2_with fail
  refine CS.out.mono ?_
  rintro e w3 ⟨rfl, hp3, hb3⟩
  have CD := Lib.hid (down_any b rv mv last most (swp xs 0 k) k 0 w3 hp3 (by rw [swp_len]; have := HK.out; omega) (by omega) (heapD_zero HK.out HH.out (.inr rfl)))
  have HB3 := Lib.hid hb3
  clear hp3 hb3 CS
  go_wp2_with fail
  refine CD.out.mono ?_
  rintro e w4 ⟨r, xs4, rfl, hu, h1, h2⟩
  have hx4 : Heap k (g xs4) := by
    cases r with
    | true => exact h1 rfl
    | false => obtain ⟨e1, e2⟩ := h2 rfl; rw [e1]; exact heapX_zero e2
  have hl4 : xs4.length = k + 1 := by rw [hu.perm.length_eq, swp_len]; exact HK.out
  have CP := Lib.hid (pop_any b k rv mv last most xs4 w4 hu.pl hl4)
  have hg4 : g xs4 k = g xs 0 := by
    rw [hu.far k (Nat.le_refl _), g_swp xs 0 k (by have := HK.out; omega) (by have := HK.out; omega), if_pos rfl]
  rw [hg4] at CP
  have HT := Lib.hid (heap_take hl4 hx4)
  have HP : Hid (xs.Perm (g xs 0 :: xs4.take k)) := by
    have e1 := take_perm hl4
    rw [hg4] at e1
    exact ((swp_perm xs 0 k (by have := HK.out; omega) (by have := HK.out; omega)).symm.trans hu.perm.symm).trans e1
  have HB4 := Lib.hid (HB3.out.trans hu.beside)
  clear hu h1 h2 hx4 hl4 hg4 CD HB3
  go_wp2_with fail
  refine CP.out.mono ?_
  rintro e w5 ⟨rfl, rv5, hp5, hb5, hf5⟩
  have HR : Hid (∃ rv' xs', Wl w5 b rv' mv last most xs' ∧ xs.Perm (g xs 0 :: xs') ∧ Beside (Bad b rv mv) w w5 ∧ Fresh w.heap.size rv mv rv' mv) :=
    ⟨rv5, _, ⟨hp5, HT.out⟩, HP.out, HB4.out.trans hb5, ⟨fun q hq => by rcases hf5.1 q hq with h9 | h9; exact .inl h9; exact .inr (Nat.le_trans HB4.out.size h9), fun q hq => .inl hq⟩⟩
  clear hp5 hb5 hf5
  go_wp2
  go_ret
  exact ⟨rfl, HR.out⟩
set_option maxHeartbeats 4000000 in
set_option maxRecDepth 100000 in
theorem hremove_any (b k i : Nat) (rv mv : Value) (last most : Int) (xs : List Tm) (w : World) (h : Wl w b rv mv last most xs) (hk : xs.length = k + 1) (hi : i < xs.length) :
    Calls Try.prog 26 #[.iface 72 (.pointer (some ⟨b, 0, none⟩)), .int .i64 i] w fun e w' => (∃ v, e = .returned v) ∧ ∃ rv' xs', Wl w' b rv' mv last most xs' ∧ xs.Perm (g xs i :: xs') ∧ Beside (Bad b rv mv) w w' ∧ Fresh w.heap.size rv mv rv' mv := by
  have L := Lib.hid (plen_pl h.pl)
  rw [hk] at L
  have hf := h.pl.few
  have hk6 : k < 65536 := by omega
  have hkk : ((k + 1 : Nat) : Int) - 1 = (k : Int) := by omega
  have END : Hid (∀ W xs4, Pl W b rv mv last most xs4 → xs4.Perm xs → Heap k (g xs4) → g xs4 k = g xs i → Beside (Bad b rv mv) w W → Calls Try.prog 72 #[.pointer (some ⟨b, 0, none⟩)] W fun e w' => (∃ v, e = .returned v) ∧ ∃ rv' xs', Wl w' b rv' mv last most xs' ∧ xs.Perm (g xs i :: xs') ∧ Beside (Bad b rv mv) w w' ∧ Fresh w.heap.size rv mv rv' mv) := by
    intro W xs4 hp hpm hh hg hb
    have hl4 : xs4.length = k + 1 := by rw [hpm.length_eq, hk]
    refine (pop_any b k rv mv last most xs4 W hp hl4).mono ?_
    rintro e w5 ⟨rfl, rv5, hp5, hb5, hf5⟩
    have e1 := take_perm hl4
    rw [hg] at e1
    exact ⟨⟨_, rfl⟩, rv5, _, ⟨hp5, heap_take hl4 hh⟩, hpm.symm.trans e1, hb.trans hb5, ⟨fun q hq => by rcases hf5.1 q hq with h9 | h9; exact .inl h9; exact .inr (Nat.le_trans hb.size h9), fun q hq => .inl hq⟩⟩
  by_cases hik : i = k
  · have CP := Lib.hid (END.out w xs h.pl (List.Perm.refl _) (h.heap.less (by omega)) (by rw [hik]) (Beside.refl _ _))
    have hz : (k : Int) = (i : Int) := by omega
    clear hk hf END h hi hik
    generalize hN : ((k + 1 : Nat) : Int) = N at L hkk
    go_enter Try.func26, Try.ntmps26
    go_wp2_with fail
    refine L.out.mono ?_
    rintro e w2 ⟨rfl, rfl⟩
    go_wp2_with fail
    refine CP.out.mono ?_
    rintro e w5 ⟨⟨v, rfl⟩, hr⟩
    have HR := Lib.hid hr
    clear hr
    go_wp2
    go_ret
    exact ⟨⟨_, rfl⟩, HR.out⟩
  · have CS := Lib.hid (swap_any b rv mv last most xs i k w h.pl (by omega) (by omega))
    have hz : ¬ ((k : Int) = (i : Int)) := by omega
    have HH := Lib.hid h.heap
    have HK := Lib.hid hk
    have hik2 : i < k := by omega
    clear hk hf h hi hik
    generalize hN : ((k + 1 : Nat) : Int) = N at L hkk
    go_enter Try.func26, Try.ntmps26
    go_wp2_with fail
    refine L.out.mono ?_
    rintro e w2 ⟨rfl, rfl⟩
    go_wp2_with fail
    refine CS.out.mono ?_
    rintro e w3 ⟨rfl, hp3, hb3⟩
    have CD := Lib.hid (down_any b rv mv last most (swp xs i k) k i w3 hp3 (by rw [swp_len]; have := HK.out; omega) (by omega) (heapD_zero HK.out HH.out (.inl hik2)))
    have HB3 := Lib.hid hb3
    have hgk : g (swp xs i k) k = g xs i := by rw [g_swp xs i k (by have := HK.out; omega) (by have := HK.out; omega), if_pos rfl]
    have HGK := Lib.hid hgk
    have HSP := Lib.hid (swp_perm xs i k (by have := HK.out; omega) (by have := HK.out; omega))
    clear hp3 hb3 CS hgk
    go_wp2_with fail
    refine CD.out.mono ?_
    rintro e w4 ⟨r, xs4, rfl, hu, h1, h2⟩
    cases r with
    | true =>
      have CP := Lib.hid (END.out w4 xs4 hu.pl (hu.perm.trans HSP.out) (h1 rfl) ((hu.far k (Nat.le_refl _)).trans HGK.out) (HB3.out.trans hu.beside))
      clear hu h1 h2 CD END
      go_wp2_with fail
      refine CP.out.mono ?_
      rintro e w5 ⟨⟨v, rfl⟩, hr⟩
      have HR := Lib.hid hr
      clear hr
      go_wp2
      go_ret
      exact ⟨⟨_, rfl⟩, HR.out⟩
    | false =>
      obtain ⟨e1, e2⟩ := h2 rfl
      subst e1
      have CU := Lib.hid (up_any b rv mv last most (swp xs i k) k i w4 hu.pl (by rw [swp_len]; have := HK.out; omega) hik2 e2)
      have HB4 := Lib.hid (HB3.out.trans hu.beside)
      clear hu h1 h2 CD e2
      go_wp2_with fail
      refine CU.out.mono ?_
      rintro e w6 ⟨rfl, xs6, hu6, hh6⟩
      have CP := Lib.hid (END.out w6 xs6 hu6.pl (hu6.perm.trans HSP.out) hh6 ((hu6.far k (Nat.le_refl _)).trans HGK.out) (HB4.out.trans hu6.beside))
      clear hu6 hh6 CU END
      go_wp2_with fail
      refine CP.out.mono ?_
      rintro e w5 ⟨⟨v, rfl⟩, hr⟩
      have HR := Lib.hid hr
      clear hr
      go_wp2
      go_ret
      exact ⟨⟨_, rfl⟩, HR.out⟩
end Go.Proofs.Ytdbgmogllncffaa
