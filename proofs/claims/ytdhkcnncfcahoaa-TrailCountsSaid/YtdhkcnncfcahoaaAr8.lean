/- trail's Element, Insert, Ops on a new Dom; layer 6's fixed facts. -/
import Derived.Test.YtdhkcnncfcahoaaAr7
import Derived.Lib.SliceRun
namespace Go.Proofs.Ytdhkcnncfcahoaa
open Go.RowKit
theorem LogIs.beside {bad : Nat → Prop} {w w' : World} {lb b base : Nat} {v : Value} {l : List OpP} (h : LogIs w lb b base v l) (hb : Beside bad w w') (h1 : ¬ bad lb) (h2 : ∀ g, v.ownBlock = some g → ¬ bad g) : LogIs w' lb b base v l := by
  refine ⟨(hb.block lb h.lt h1).trans h.cells, ?_⟩
  rcases h.own with ⟨h3, h4 | ⟨g', c, cur, hv, h5, hh, h6⟩⟩
  · exact ⟨h3, .inl h4⟩
  · refine ⟨h3, .inr ⟨g', c, cur, hv, h5, (hb.block g' (Array.getElem?_eq_some_iff.1 hh).1 (h2 g' (by rw [hv]; rfl))).trans hh, h6⟩⟩
theorem cells_ne {w : World} {a b : Nat} {cs ds : Array Value} {t u : TypeId} {f g : Nat × Nat} (h : w.heap[a]? = some (.cells cs t f)) (k : w.heap[b]? = some (.cells ds u g)) (hne : t ≠ u) : a ≠ b := by
  rintro rfl
  rw [h] at k
  injection k with k
  injection k with _ k2 _
  exact hne k2
theorem DomIs.ne_of {w : World} {b m g : Nat} {f : Int → Option Value} {n : Nat} {nx mo : Int} {cs : Array Value} {t : TypeId} {fr : Nat × Nat} (h : DomIs w b m f n nx mo) (hg : w.heap[g]? = some (.cells cs t fr)) : g ≠ m := by
  rintro rfl
  obtain ⟨D, ⟨es, clock, h1, _⟩, _⟩ := h.map
  rw [h1] at hg
  cases hg
def op1 : OpP := (1, 1, 0, 0, ⟨#[112]⟩, ⟨#[]⟩)
def op2 : OpP := (3, 0, 0, 1, ⟨#[]⟩, ⟨#[]⟩)
set_option maxHeartbeats 2000000 in
theorem log_element (lb b m r0 base : Nat) (w : World) (hd : DomIs w b m (rootF r0) 1 1 3) (hn : w.heap[r0]? = some (.cells rootCells 47 (0, 0))) (hl : LogIs w lb b base (.slice none 0 0) []) (hb : base ≤ w.heap.size) :
    Calls Try.prog 8 #[.pointer (some ⟨lb, 0, none⟩), .string ⟨#[112]⟩] w fun e w' => e = .returned (.tuple #[.int .i64 1, .int .i64 0]) ∧ ∃ r1 f v, TwoIs w' b m r0 r1 f ∧ LogIs w' lb b base v [op1] ∧ w.heap.size ≤ r1 ∧ Beside (fun g => g = b ∨ g = m ∨ g = lb) w w' := by
  have HD := Lib.hid hd
  have HN := Lib.hid hn
  have HL := Lib.hid hl
  clear hd hn hl
  go_enter Try.func8, Try.ntmps8
  go_wp2_with fail
  refine (dom_any lb b base _ [] w HL.out).mono ?_
  rintro e w1 ⟨rfl, hw1⟩
  subst hw1
  go_wp2_with fail
  refine (element_p b m (rootF r0) 1 1 3 w1 HD.out (by omega) (by omega) (by omega) (by omega) (by unfold rootF; rfl)).mono ?_
  rintro e w2 ⟨rfl, hd2, hn2, hb2⟩
  have hlb : ¬ DomTurn b m lb := by
    rintro (h | h)
    · exact cells_ne HL.out.cells HD.out.cells (by decide) h
    · exact HD.out.ne_of HL.out.cells h
  have HL2 := Lib.hid (HL.out.beside hb2 hlb (fun g h => by simp [Value.ownBlock] at h))
  have hr0lt : r0 < w1.heap.size := (Array.getElem?_eq_some_iff.1 HN.out).1
  have hr0 : ¬ DomTurn b m r0 := by
    rintro (h | h)
    · exact cells_ne HN.out HD.out.cells (by decide) h
    · exact HD.out.ne_of HN.out h
  have HN2 := Lib.hid ((hb2.block r0 hr0lt hr0).trans HN.out)
  have HD2 := Lib.hid hd2
  have HR2 := Lib.hid hn2
  have HB2 := Lib.hid hb2
  have hsz := hb2.size
  clear hd2 hn2 hb2
  go_wp2_with fail
  refine (note_any lb b base _ [] op1 w2 HL2.out (by omega) (by simp)).mono ?_
  rintro e w3 ⟨rfl, v3, hl3, hb3⟩
  have hne : ∀ g, g < w2.heap.size → g ≠ lb → w3.heap[g]? = w2.heap[g]? := fun g hg h => hb3.block g hg (by rintro (h' | h'); exact h h'; simp [Value.ownBlock] at h')
  have hd3 : TwoIs w3 b m r0 w1.heap.size (fun j => if j = 1 then some (.pointer (some ⟨w1.heap.size, 0, none⟩)) else rootF r0 j) := by
    refine ⟨HD2.out.heap (hne b HD2.out.lt.1 (fun h => cells_ne HD2.out.cells HL2.out.cells (by decide) h)) (hne m HD2.out.lt.2 (fun h => HD2.out.ne_of HL2.out.cells h.symm)), rfl, rfl, ?_, ?_, by omega⟩
    · exact (hne r0 (Array.getElem?_eq_some_iff.1 HN2.out).1 (fun h => cells_ne HN2.out HL2.out.cells (by decide) h)).trans HN2.out
    · exact (hne _ (Array.getElem?_eq_some_iff.1 HR2.out).1 (fun h => cells_ne HR2.out HL2.out.cells (by decide) h)).trans HR2.out
  have HD3 := Lib.hid hd3
  have HL3 := Lib.hid hl3
  have HB3 : Hid (Beside (fun g => g = b ∨ g = m ∨ g = lb) w1 w3) := (HB2.out.mono (fun g h => by rcases h with h | h; exact .inl h; exact .inr (.inl h))).trans (hb3.mono (fun g h => by rcases h with h | h; exact .inr (.inr h); simp [Value.ownBlock] at h))
  clear hd3 hl3 hb3 hne
  go_wp2
  go_ret2
  exact ⟨rfl, _, _, v3, HD3.out, HL3.out, Nat.le_refl _, HB3.out⟩
set_option maxHeartbeats 2000000 in
theorem log_insert (lb b m r0 r1 base : Nat) (f : Int → Option Value) (v : Value) (w : World) (hd : TwoIs w b m r0 r1 f) (hl : LogIs w lb b base v [op1]) (hb : base ≤ w.heap.size) :
    Calls Try.prog 9 #[.pointer (some ⟨lb, 0, none⟩), .int .i64 0, .int .i64 0, .int .i64 1] w fun e w' => e = .returned (.int .i64 0) ∧ ∃ v', LogIs w' lb b base v' [op1, op2] ∧ Beside (fun g => g = r0 ∨ g = r1 ∨ g = lb ∨ v.ownBlock = some g) w w' := by
  have HD := Lib.hid hd
  have HL := Lib.hid hl
  clear hd hl
  go_enter Try.func9, Try.ntmps9
  go_wp2_with fail
  refine (dom_any lb b base _ _ w HL.out).mono ?_
  rintro e w1 ⟨rfl, hw1⟩
  subst hw1
  go_wp2_with fail
  refine (insert01 b m r0 r1 f w1 HD.out).mono ?_
  rintro e w2 ⟨rfl, hb2⟩
  have hlb : ¬ DomTurn r0 r1 lb := by
    rintro (h | h)
    · exact cells_ne HL.out.cells HD.out.n0 (by decide) h
    · exact cells_ne HL.out.cells HD.out.n1 (by decide) h
  have hvb : ∀ g, v.ownBlock = some g → ¬ DomTurn r0 r1 g := by
    rintro g hg (h | h)
    · subst h; exact own_not HL.out.own HD.out.n0 (by decide) hg.symm
    · subst h; exact own_not HL.out.own HD.out.n1 (by decide) hg.symm
  have HL2 := Lib.hid (HL.out.beside hb2 hlb hvb)
  have HB2 := Lib.hid hb2
  have hsz := hb2.size
  clear hb2
  go_wp2_with fail
  refine (note_any lb b base v [op1] op2 w2 HL2.out (by omega) (by simp)).mono ?_
  rintro e w3 ⟨rfl, v3, hl3, hb3⟩
  have HL3 := Lib.hid hl3
  have HB3 : Hid (Beside (fun g => g = r0 ∨ g = r1 ∨ g = lb ∨ v.ownBlock = some g) w1 w3) := (HB2.out.mono (fun g h => by rcases h with h | h; exact .inl h; exact .inr (.inl h))).trans (hb3.mono (fun g h => by rcases h with h | h; exact .inr (.inr (.inl h)); exact .inr (.inr (.inr h))))
  clear hl3 hb3
  go_wp2
  go_ret
  exact ⟨rfl, v3, HL3.out, HB3.out⟩
theorem At.ownRow {w : World} {base : Nat} {e : TypeId} {size n : Nat} {v : Value} {xs : List Value} (h : w.ownsRow base e size v n xs) (hn : 0 < n) : ∃ g c, v = .slice (some ⟨g, 0, none⟩) n c ∧ g < w.heap.size ∧ At w (some ⟨g, 0, none⟩) xs := by
  rcases h.2 with ⟨_, h0⟩ | ⟨g, c, cur, hv, hb, hh, h1, h2, _⟩
  · omega
  · exact ⟨g, c, hv, (Array.getElem?_eq_some_iff.1 hh).1, At.own (hv ▸ h)⟩
set_option maxHeartbeats 2000000 in
theorem ops_two (lb b base : Nat) (v : Value) (l : List OpP) (w : World) (hl : LogIs w lb b base v l) (h2 : l.length = 2) :
    Calls Try.prog 10 #[.pointer (some ⟨lb, 0, none⟩)] w fun e w' => ∃ g c, e = .returned (.slice (some ⟨g, 0, none⟩) 2 c) ∧ g < w'.heap.size ∧ At w' (some ⟨g, 0, none⟩) (ov l) ∧ Below w.heap.size w w' := by
  obtain ⟨i0, hi, hz0, hz1, hz2⟩ := info_parts infoOp
  have hc1 := hl.c1
  have ho := hl.own
  rw [h2] at ho
  obtain ⟨g, c, rfl, hg, hat⟩ := At.ownRow ho (by omega)
  have HAT := Lib.hid hat
  have HLN : Hid ((ov l).length = 2 * 6) := by show _ = _; rw [ov_len, h2]
  clear hat ho hl
  have HCL : Hid (Calls Try.prog 16 #[.slice (some ⟨g, 0, none⟩) 2 c] w fun e w' => ∃ g' c', e = .returned (.slice (some ⟨g', 0, none⟩) 2 c') ∧ g' < w'.heap.size ∧ At w' (some ⟨g', 0, none⟩) (ov l) ∧ Below w.heap.size w w') := by
    have q22 : ∀ (w : World) (a : Option Addr) (n c n' c' : Nat), (binOp .eql 22 (.slice a n c) (.slice none n' c')).run Try.prog w = .ok (.bool a.isNone) w := fun w a n c n' c' => Lib.run_eql_slice_nil w _ _ a n c n' c' Try.underlying22
    show Calls _ _ _ _ _
    go_enter Try.func16, Try.ntmps16
    go_wp2_with (at_builtin; refine wpList_append_at rfl _ _ 22 rfl w.heap.size 25 i0 (.agg #[.int .i64 0, .int .i64 0, .int .i64 0, .int .i64 0, .string { data := #[] }, .string { data := #[] }]) 6 64 Try.underlying22 hi hz0 hz1 hz2 rfl (by decide) _ _ _ rfl (own_made w w.heap.size rfl (Nat.le_refl _)) (some ⟨g, 0, none⟩) 2 c (ov l) rfl (fun h => nomatch h) HLN.out (HAT.out.alloc _) (ov_one l) (by unfold maxLen; omega) (by omega) (by simp) ?_; intro v1 w5 hown1 hgrow1; have HO := Lib.hid hown1; have HG := Lib.hid hgrow1; clear hown1 hgrow1)
    go_ret
    obtain ⟨g', c', rfl, hg', hat'⟩ := At.ownRow HO.out (by omega)
    exact ⟨g', c', rfl, hg', hat', (below_alloc w _).grown HG.out (by simp) (fun q hq => by have h6 : some w.heap.size = some q := hq; injection h6 with h6; omega)⟩
  go_enter Try.func10, Try.ntmps10
  go_wp2_with fail
  refine HCL.out.mono ?_
  rintro e w1 ⟨g1, c1, rfl, h3, h4, h5⟩
  have H4 := Lib.hid h4
  have H5 := Lib.hid h5
  clear h4 h5
  go_wp2
  go_ret
  exact ⟨g1, c1, rfl, h3, H4.out, H5.out⟩
theorem ov_two : ov [op1, op2] = [.int .i64 1, .int .i64 1, .int .i64 0, .int .i64 0, .string ⟨#[112]⟩, .string ⟨#[]⟩, .int .i64 3, .int .i64 0, .int .i64 0, .int .i64 1, .string ⟨#[]⟩, .string ⟨#[]⟩] := rfl
set_option maxHeartbeats 4000000 in
set_option maxRecDepth 100000 in
theorem awake6_any (w : World) : Calls Try.prog 4 #[] w fun e w' => e = .returned (.bool true) ∧ Below w.heap.size w w' := by
  go_enter Try.func4, Try.ntmps4
  go_wp2_with fail
  refine (new3_any w).mono ?_
  rintro e w1 ⟨b, m, r0, rfl, hd1, hr1, h1, h2, h3, h4, h5, h6, hb1⟩
  have HD1 := Lib.hid hd1
  have HR1 := Lib.hid hr1
  have HB1 := Lib.hid hb1
  clear hd1 hr1 hb1
  go_wp2_with fail
  refine (on_any b w1).mono ?_
  rintro e w2 ⟨rfl, hw2⟩
  have hba : Below w1.heap.size w1 w2 := by rw [hw2]; exact below_alloc _ _
  have hl2 : LogIs w2 w1.heap.size b w2.heap.size (.slice none 0 0) [] := ⟨by rw [hw2]; exact heap_alloc_new _ _, World.ownsRow_nil _ _ _ _⟩
  have HL2 := Lib.hid hl2
  have HD2 := Lib.hid (HD1.out.below hba)
  have HR2 := Lib.hid ((hba.block r0 (Array.getElem?_eq_some_iff.1 HR1.out).1).trans HR1.out)
  have HB2 := Lib.hid (HB1.out.trans (hba.mono HB1.out.size))
  have q0 := hl2.c0
  have hs1 := HB1.out.size
  clear hw2 hba hl2
  generalize w1.heap.size = lb at HL2 hs1 q0
  go_wp2_with fail
  refine (log_element lb b m r0 w2.heap.size w2 HD2.out HR2.out HL2.out (Nat.le_refl _)).mono ?_
  rintro e w3 ⟨rfl, r1, f, v3, ht3, hl3, hr1, hb3⟩
  have HT3 := Lib.hid ht3
  have HL3 := Lib.hid hl3
  have HB3 := Lib.hid (hb3.below HB2.out HB2.out.size (fun g h => by rcases h with rfl | rfl | rfl <;> omega))
  have hs3 := hb3.size
  have hs2 := HB2.out.size
  have hfrom := own_from hl3.own
  have HFR := Lib.hid hfrom
  clear ht3 hl3 hb3 hfrom q0
  go_wp2_with fail
  refine (log_insert lb b m r0 r1 w2.heap.size f v3 w3 HT3.out HL3.out hs3).mono ?_
  rintro e w4 ⟨rfl, v4, hl4, hb4⟩
  have HL4 := Lib.hid hl4
  have HB4 := Lib.hid (hb4.below HB3.out HB3.out.size (fun g h => by rcases h with rfl | rfl | rfl | h; omega; omega; omega; have := HFR.out g h; omega))
  clear hl4 hb4
  go_wp2_with fail
  refine (ops_two lb b w2.heap.size v4 [op1, op2] w4 HL4.out rfl).mono ?_
  rintro e w5 ⟨g, c, rfl, hg, hat, hb5⟩
  have HB5 := Lib.hid (HB4.out.trans (hb5.mono HB4.out.size))
  rw [ov_two] at hat
  have cell : ∀ j u, ([.int .i64 1, .int .i64 1, .int .i64 0, .int .i64 0, .string ⟨#[112]⟩, .string ⟨#[]⟩, .int .i64 3, .int .i64 0, .int .i64 0, .int .i64 1, .string ⟨#[]⟩, .string ⟨#[]⟩] : List Value)[j]? = some u → w5.cell? ⟨g, j, none⟩ = some u := fun j u hu => by
    obtain ⟨b', o', e, _, hc⟩ := hat (by simp)
    injection e with e
    injection e with e1 e2
    subst e1 e2
    have := hc j u hu
    rwa [Nat.zero_add] at this
  have d0 := cell 0 _ rfl
  have d1 := cell 1 _ rfl
  have d2 := cell 2 _ rfl
  have d3 := cell 3 _ rfl
  have d4 := cell 4 _ rfl
  have d5 := cell 5 _ rfl
  have d6 := cell 6 _ rfl
  have d7 := cell 7 _ rfl
  have d8 := cell 8 _ rfl
  have d9 := cell 9 _ rfl
  have d10 := cell 10 _ rfl
  have d11 := cell 11 _ rfl
  clear cell hat hb5
  go_wp2
  go_ret
  exact ⟨rfl, HB5.out⟩
end Go.Proofs.Ytdhkcnncfcahoaa
