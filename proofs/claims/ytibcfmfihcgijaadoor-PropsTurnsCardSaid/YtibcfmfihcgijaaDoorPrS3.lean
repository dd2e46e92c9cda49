/- Contracts of props' Of at numbers, and of its search in a map. -/
import Derived.Test.YtibcfmfihcgijaaDoorPrS2
import Derived.Test.YtibcfmfihcgijaaDoorPrT
import Derived.Test.YtibcfmfihcgijaaDoorPrW9
namespace Go.Proofs.YtibcfmfihcgijaaDoor
open Go.RowKit M
theorem of_any (A : Option Addr) (n c : Nat) (l : List Par) (w : World) (hn : n = l.length) (hb : n ≤ 100000) (hA0 : A = none → n = 0 ∧ c = 0) (ha : At w A (pv l)) :
    Calls Tryd.prog 15 #[.slice A n c] w fun e w' => ∃ v, e = .returned v ∧ w'.ownsRow w.heap.size 68 2 v (ofP l).length (pv (ofP l)) ∧ RowKit.Below w.heap.size w w' := by
  have H := Lib.hid (latest_any A n c l w hn hb hA0 ha)
  clear hn hA0 ha
  go_enter Tryd.func15, Tryd.ntmps15
  go_wp2_with (go_at_call 36; refine H.out.mono ?_; rintro e w1 ⟨v, rfl, h1, h2⟩)
  go_ret
  exact ⟨v, rfl, h1, h2⟩
theorem cmpAt_lt {l : List Par} {t : ByteArray} {k : Nat} (h : k < l.length) : (cmpAt l t k < 0) ↔ blt l[k].1 t = true := by
  have h1 := St.cmpN_lt l[k].1 t
  unfold St.cmpN at h1
  unfold cmpAt
  rw [dif_pos h, ← h1, decide_eq_true_iff]
theorem cmpAt_zero {l : List Par} {t : ByteArray} {k : Nat} (h : k < l.length) (h0 : cmpAt l t k = 0) : l[k].1 = t := by
  unfold cmpAt at h0
  rw [dif_pos h, compare_less] at h0
  split at h0
  · cases h0
  · split at h0
    · rename_i h1
      exact ByteArray.ext (Array.ext' h1)
    · cases h0
theorem cmpAt_self {l : List Par} {t : ByteArray} {k : Nat} (h : k < l.length) (h0 : l[k].1 = t) : cmpAt l t k = 0 := by
  unfold cmpAt
  rw [dif_pos h, h0, compare_less]
  have h1 : Op.bytesLess t.data.toList t.data.toList = false := less_irrefl _
  rw [h1]; simp
theorem rises_at {m : List Par} (hm : Rises m) {i j : Nat} (hij : i < j) (hj : j < m.length) : blt (m[i]'(by omega)).1 m[j].1 = true := List.pairwise_iff_getElem.1 hm i j (by omega) hj hij
theorem find_map (A : Option Addr) (n c : Nat) (m : List Par) (t : ByteArray) (w : World) (hn : n = m.length) (hb : n ≤ 100000) (hm : Rises m) (ha : At w A (pv m)) :
    Calls Tryd.prog 34 #[.slice A n c, .string t] w fun e w' =>
      (∃ z, getP m t = some z ∧ e = .returned (.tuple #[.int .i64 z, .bool true]) ∧ RowKit.Below w.heap.size w w') ∨ (getP m t = none ∧ e = .returned (.tuple #[.int .i64 0, .bool false]) ∧ RowKit.Below w.heap.size w w') := by
  refine (find_any A n c m t w hn hb ha (fun a b hab hbl h => ?_)).mono ?_
  · rw [cmpAt_lt (by omega)]
    rw [cmpAt_lt hbl] at h
    rcases Nat.lt_or_ge a b with h1 | h1
    · exact blt_trans (rises_at hm h1 hbl) h
    · obtain rfl : a = b := by omega
      exact h
  · rintro e w' ⟨k, hS, h, hbel⟩
    rcases h with ⟨hk, h0, rfl⟩ | ⟨hno, rfl⟩
    · refine .inl ⟨_, ?_, rfl, hbel⟩
      have h1 := rises_get hm (List.getElem_mem hk)
      rw [cmpAt_zero hk h0] at h1
      exact h1
    · refine .inr ⟨?_, rfl, hbel⟩
      refine getP_none fun p hp e => hno ?_
      obtain ⟨i, hi, rfl⟩ := List.getElem_of_mem hp
      have h2 := cmpAt_self hi e
      have h3 : ¬ i < k := fun h => by have := hS.2.1 i h; omega
      have h4 : ¬ k < i := fun h => by
        have h5 := hS.2.2 k (Nat.le_refl _) (by omega)
        rw [cmpAt_lt (by omega)] at h5
        exact h5 (by rw [← e]; exact rises_at hm h hi)
      obtain rfl : i = k := by omega
      exact ⟨hi, h2⟩
end Go.Proofs.YtibcfmfihcgijaaDoor
