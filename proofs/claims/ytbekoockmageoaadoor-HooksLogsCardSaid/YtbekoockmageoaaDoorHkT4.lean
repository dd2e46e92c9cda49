/- A log's text, by the program: a builder. -/
import Derived.Test.YtbekoockmageoaaDoorHkT2
import Derived.Test.YtbekoockmageoaaDoorHkBd
namespace Go.Proofs.YtbekoockmageoaaDoor
open Go.RowKit Hk
set_option linter.unusedVariables false
theorem builder_below {T e : TypeId} {B b : Nat} {bs : List Value} {w w' : World} (h : Lib.IsBuilder T e B b bs w) (hb : Below w.heap.size w w') : Lib.IsBuilder T e B b bs w' := by
  rcases h with h | h
  all_goals
    have hlt := h.lt
    obtain ⟨h1, v, h2, h3, h4⟩ := h
  · exact .inl ⟨h1, v, (hb.block b hlt).trans h2, own_below h3 hb, h4⟩
  · exact .inr ⟨h1, v, (hb.block b hlt).trans h2, own_below h3 hb, h4⟩
theorem str_app (a b : ByteArray) : Lib.strCells (a ++ b) = Lib.strCells a ++ Lib.strCells b := by
  unfold Lib.strCells
  rw [show (a ++ b).data = a.data ++ b.data by simp]
  simp
set_option maxHeartbeats 4000000 in
set_option maxRecDepth 100000 in
theorem text_any (A : Option Addr) (m c : Nat) (L : List En) (w : World) (hn : m = L.length) (hb : m ≤ 1000) (ha : At w A (ecs L)) (hok : ∀ e ∈ L, OkS e) (ht : Tab w) (hm : NmIs w) :
    Calls Tryd.prog 22 #[.slice A m c] w fun e w' => e = .returned (.string (textB L)) ∧ Below w.heap.size w w' := by
  have HNL := Lib.hid hn
  have HA := Lib.hid ha
  have HOK := Lib.hid hok
  have HT := Lib.hid ht
  have HM := Lib.hid hm
  clear hn ha hok ht hm
  have HI0 : Hid (Lib.IsBuilder 61 5 w.heap.size w.heap.size (Lib.strCells (textB (L.take 0))) (w.alloc (.cells #[.pointer none, .slice none 0 0] 61))) := Lib.hid (Lib.fresh_isBuilder _ _ w)
  have HB0 : Hid (Below w.heap.size w (w.alloc (.cells #[.pointer none, .slice none 0 0] 61))) := Lib.hid (below_alloc w _)
  go_enter Tryd.func22, Tryd.ntmps22
  go_wp2
  go_loopw [8] (fun i wr => ∃ k : Nat, k ≤ m ∧ i = .int .i64 k ∧ Hid (Lib.IsBuilder 61 5 w.heap.size w.heap.size (Lib.strCells (textB (L.take k))) wr) ∧ Hid (Below w.heap.size w wr)) (fun i _ => m - (intOf i).toNat)
  case atStart => exact ⟨0, Nat.zero_le _, rfl, HI0, HB0⟩
  case round =>
    obtain ⟨k, hk, rfl, hbu, hbel⟩ := hrel
    have hle := textB_le L HOK.out k
    by_cases hlt : k < m
    · skip
      have hk1 : k < L.length := by have := HNL.out; omega
      obtain ⟨b1, o1, rfl, hb1, hc0, hc1, hc2, hc3⟩ := at_en HA.out hk1
      have hd0 := (below_cells hbel.out).1 b1 (o1 + k * 4) hb1
      have hd1 := (below_cells hbel.out).1 b1 (o1 + k * 4 + 1) hb1
      have hd2 := (below_cells hbel.out).1 b1 (o1 + k * 4 + 2) hb1
      have hd3 := (below_cells hbel.out).1 b1 (o1 + k * 4 + 3) hb1
      rw [hc0] at hd0
      rw [hc1] at hd1
      rw [hc2] at hd2
      rw [hc3] at hd3
      have HOe := Lib.hid (HOK.out _ (List.getElem_mem hk1))
      have hnx := textB_next L k hk1
      unfold lineE at hnx
      unfold OkS OkE at HOe
      generalize L[k].g = g at hd0 hnx HOe
      generalize L[k].n = n at hd1 hnx HOe
      generalize L[k].h = h at hd2 hnx HOe
      generalize L[k].s = s at hd3 hnx HOe
      have HG := Lib.hid HOe.out.1.1
      have HN := Lib.hid HOe.out.1.2.1
      have HH := Lib.hid HOe.out.1.2.2.1
      have HSZ := Lib.hid HOe.out.2
      have HNXT := Lib.hid hnx
      clear hc0 hc1 hc2 hc3 hnx
      have hsz := hbel.out.size
      have hle2 := lineE_le ⟨g, n, h, s⟩ HOe.out
      unfold lineE at hle2
      have HBX := Lib.hid (hbel.out.alloc hsz (.cells #[.int .i64 g, .int .i64 n, .int .i64 h, .string s] 46))
      have HIX := Lib.hid (builder_below hbu.out (below_alloc wr (.cells #[.int .i64 g, .int .i64 n, .int .i64 h, .string s] 46)))
      obtain ⟨tx, htx⟩ : ∃ tx, tx = textB (L.take k) := ⟨_, rfl⟩
      rw [← htx] at HNXT HIX hle
      clear htx hbu
      go_wp2_with fail
      (with_reducible refine (line_any g n h s _ HG.out HN.out HH.out HSZ.out (tab_below HT.out HBX.out) (HM.out.below HBX.out)).mono ?_)
      rintro e w5 ⟨rfl, hb5⟩
      have HI5 := Lib.hid (builder_below HIX.out hb5)
      have HB5 := Lib.hid (HBX.out.trans (hb5.mono HBX.out.size))
      clear hb5 hd0 hd1 hd2 hd3
      generalize lineB g n h s = ln at HNXT hle2 ⊢
      go_wp2_with fail
      (with_reducible refine (writeString_any w.heap.size w.heap.size (Lib.strCells tx) ln _ HI5.out ?_ HB5.out.size).mono ?_)
      · rw [Lib.strCells_length]; omega
      rintro e w6 ⟨rfl, hI6, hb6⟩
      have HI6 : Hid (Lib.IsBuilder 61 5 w.heap.size w.heap.size (Lib.strCells (textB (L.take (k + 1)))) w6) := Lib.hid (by rw [HNXT.out, str_app]; exact .inr hI6)
      have HB6 := Lib.hid (HB5.out.trans hb6)
      clear hI6 hb6
      go_wp2
      go_roundw
      case rel => exact ⟨k + 1, by omega, by go_num, HI6, HB6⟩
      case measure => simp [intOf]; omega
    · obtain rfl : k = m := by omega
      have hI := hbu.out
      rw [List.take_of_length_le (by rw [HNL.out]; exact Nat.le_refl _), Lib.strCells_eq] at hI
      have HI := Lib.hid hI
      clear hI
      go_wp2_with fail
      (with_reducible refine (Tryd.Builder_String_any w.heap.size w.heap.size _ _ HI.out hbel.out.size).mono ?_)
      rintro e w6 ⟨rfl, hb6⟩
      have HB6 := Lib.hid (hbel.out.trans hb6)
      clear hb6
      go_wp2
      go_ret
      exact ⟨rfl, HB6.out⟩
end Go.Proofs.YtbekoockmageoaaDoor
